import Derived.Test.YteclpblfleakhaaGreatDoorPkPriceMath
import Derived.Shelf.SlIterI.Nil
import Derived.Shelf.SlicesE.Clone
import Derived.Sort.WalkA

namespace Go.Proofs.YteclpblfleakhaaGreatDoor.Plan
open Go.RowKit Go.Maps Go.Sort Go.Shelf Go.Proofs.YteclpblfleakhaaGreatDoor.Mem Go.Proofs.YteclpblfleakhaaGreatDoor.Route Go.Proofs.YteclpblfleakhaaGreatDoor.When Go.Proofs.YteclpblfleakhaaGreatDoor.Load
set_option linter.unusedVariables false
theorem del_tells {D : DataW Unit} {f : Int → Option Int} {r : Int}
 (h : ∀ r, Maps.has D (.int .i64 r) = (f r).isSome ∧ D.atKey (.int .i64 r) (.lit (.int .i64 0)) = .lit (.int .i64 ((f r).getD 0))) :
 ∀ q, Maps.has (D.del (.int .i64 r)) (.int .i64 q) = ((fun q => if q = r then none else f q) q).isSome ∧
  (D.del (.int .i64 r)).atKey (.int .i64 q) (.lit (.int .i64 0)) = .lit (.int .i64 (((fun q => if q = r then none else f q) q).getD 0)) := by
 intro q
 by_cases hq : q = r
 · subst hq
   simp only [if_true]
   exact ⟨Maps.has_del_same, Maps.atKey_del_same _⟩
 · have hne : (Lit.int .i64 q) ≠ .int .i64 r := fun e => hq (by injection e)
   simp only [if_neg hq]
   exact ⟨(Maps.has_del_other hne).trans (h q).1, by rw [Maps.atKey_del_other hne]; exact (h q).2⟩
theorem keys_tell {w : World} {b n : Nat} {R : Value → Option (DataW Unit × List MemPlace)} {D : DataW Unit} (hown : w.ownsMap Tryz.prog 3 R b n D) : (intKeys D).Nodup ∧ ∀ x, x ∈ intKeys D ↔ Maps.has D (.int .i64 x) = true := by
 obtain ⟨es, hD, hpw, _⟩ := hown.entries (Maps.int_keyed Tryz.underlying3)
 obtain ⟨es', hD', hko⟩ := hown.keysOf
 obtain rfl : es = es' := by rw [hD] at hD'; simpa using hD'
 subst hD
 have hk : ∀ p ∈ es, ∃ x, p.1 = Lit.int .i64 x := fun p hp => by
  obtain ⟨v, hv⟩ := hko p hp
  obtain ⟨x, _, hx, _⟩ := Maps.keyOf_i64 Tryz.underlying3 hv
  exact ⟨x, hx⟩
 constructor
 · show (es.map fun p => Go.intOf p.1).Nodup
   refine List.pairwise_map.2 (hpw.imp_of_mem fun {p q} hp' hq' hne e => hne ?_)
   obtain ⟨a, ha⟩ := hk p hp'
   obtain ⟨c, hc⟩ := hk q hq'
   rw [ha, hc] at e ⊢
   exact congrArg _ e
 · intro x
   rw [has_eq, List.any_eq_true]
   show x ∈ es.map (fun p => Go.intOf p.1) ↔ _
   rw [List.mem_map]
   constructor
   · rintro ⟨p, hp', rfl⟩
     obtain ⟨a, ha⟩ := hk p hp'
     exact ⟨p, hp', by rw [ha]; simp [Lit.sameKey, Go.intOf]⟩
   · rintro ⟨p, hp', hs⟩
     obtain ⟨a, ha⟩ := hk p hp'
     rw [ha] at hs
     exact ⟨p, hp', by rw [ha]; simpa [Lit.sameKey, Go.intOf] using hs⟩
theorem few : ∀ (m : Nat) (l : List Int), l.Nodup → (∀ x ∈ l, 0 ≤ x ∧ x < m) → l.length ≤ m
 | 0, l, _, h => by
  cases l with
  | nil => exact Nat.le_refl _
  | cons x l => have := h x (by simp); omega
 | m + 1, l, hn, h => by
  by_cases hm : (m : Int) ∈ l
  · have h1 := few m (l.erase m) (hn.erase _) (fun x hx => by
     have h2 := (hn.mem_erase_iff).1 hx
     have := h x h2.2
     have := h2.1
     omega)
    rw [List.length_erase_of_mem hm] at h1
    omega
  · have := few m l hn (fun x hx => by
     have h2 := h x hx
     have : x ≠ m := fun e => hm (by rw [← e]; exact hx)
     omega)
    omega
theorem map_tight {w : World} {b n : Nat} {f : Int → Option Int} (h : MapAt w b n f) {m : Nat} (hf : ∀ r, (f r).isSome = true → 0 ≤ r ∧ r < m) : MapAt w b m f := by
 obtain ⟨D, hown, hD⟩ := h
 obtain ⟨k1, k2⟩ := keys_tell hown
 have hlen := few m (intKeys D) k1 (fun x hx => hf x (by rw [← (hD x).1]; exact (k2 x).1 hx))
 obtain ⟨es, clock, hb, F, hs, e⟩ := hown
 refine ⟨D, ⟨es, clock, hb, F, ?_, e⟩, hD⟩
 have : (intKeys D).length = es.size := by
  rw [e]
  unfold intKeys
  simp only [List.length_map, length_sorted, Array.length_toList]
 omega
end Go.Proofs.YteclpblfleakhaaGreatDoor.Plan

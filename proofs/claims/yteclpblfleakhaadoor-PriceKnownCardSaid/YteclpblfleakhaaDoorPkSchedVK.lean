import Derived.Test.YteclpblfleakhaaDoorPkPriceMath
import Derived.Shelf.SlIterI.Nil
import Derived.Shelf.SlicesE.Clone
import Derived.Sort.WalkA

namespace Go.Proofs.YteclpblfleakhaaDoor.Feas
open Go.RowKit Go.Proofs.YteclpblfleakhaaDoor.Mem
set_option linter.unusedVariables false
inductive Kn where
 | val (u : Value)
 | of (p : Value → World → Prop) (hp : ∀ {v w w'}, p v w → Below w.heap.size w w' → p v w')
 | any
def Kn.holds : Kn → Value → World → Prop
 | .val u, v, _ => v = u
 | .of p _, v, w => p v w
 | .any, _, _ => True
def VK (ks : List Kn) (i : Nat) (v : Value) (w : World) : Prop := ∀ k, ks[i]? = some k → k.holds v w
theorem VK.keep {ks : List Kn} {i : Nat} {v : Value} {w w' : World} (h : VK ks i v w) (hb : Below w.heap.size w w') : VK ks i v w' := fun k hk => by
 have h1 := h k hk
 cases k with
 | val u => exact h1
 | of p hp => exact hp h1 hb
 | any => trivial
theorem VK.val {ks : List Kn} {i : Nat} {u v : Value} {w : World} (h : ks[i]? = some (.val u)) (e : v = u) : VK ks i v w := fun k hk => by rw [h] at hk; cases hk; exact e
theorem VK.of {ks : List Kn} {i : Nat} {v : Value} {w : World} {p : Value → World → Prop} {hp : ∀ {v w w'}, p v w → Below w.heap.size w w' → p v w'} (h : ks[i]? = some (.of p hp)) (e : p v w) : VK ks i v w := fun k hk => by rw [h] at hk; cases hk; exact e
theorem VK.any {ks : List Kn} {i : Nat} {v : Value} {w : World} (h : ks[i]? = some .any) : VK ks i v w := fun k hk => by rw [h] at hk; cases hk; trivial
theorem VK.eq {ks : List Kn} {i : Nat} {u v : Value} {w : World} (hV : VK ks i v w) (h : ks[i]? = some (.val u)) : v = u := hV _ h
theorem VK.get {ks : List Kn} {i : Nat} {v : Value} {w : World} {p : Value → World → Prop} {hp : ∀ {v w w'}, p v w → Below w.heap.size w w' → p v w'} (hV : VK ks i v w) (h : ks[i]? = some (.of p hp)) : p v w := hV _ h
theorem belowTr {a b c : World} (h : Below a.heap.size a b) (k : Below b.heap.size b c) : Below a.heap.size a c := h.trans (k.mono h.size)
end Go.Proofs.YteclpblfleakhaaDoor.Feas
namespace Go.Proofs.YteclpblfleakhaaDoor.Price
open Go.RowKit Go.Sort Go.Proofs.YteclpblfleakhaaDoor.Mem Go.Proofs.YteclpblfleakhaaDoor.Order Go.Proofs.YteclpblfleakhaaDoor.Route Go.Proofs.YteclpblfleakhaaDoor.When Go.Proofs.YteclpblfleakhaaDoor.Load Go.Proofs.YteclpblfleakhaaDoor.Feas Go.Proofs.YteclpblfleakhaaDoor.Ins Go.Proofs.YteclpblfleakhaaDoor.Cheap Go.Proofs.YteclpblfleakhaaDoor.Plan
set_option linter.unusedVariables false
def inB (r : Int) (l : List (Int × Int)) : Bool := decide (0 ≤ ixV (r, 0) l) || decide (0 ≤ ixV (r, 1) l)
def okK (S : St) (k : Nat) : Prop := ∀ (i : Nat) v l, i < k → S.vs[i]? = some v → S.rows[i]? = some l → okF v l S.t = true ∧ offB l (S.rows.take i) = true
theorem okK_zero (S : St) : okK S 0 := fun i v l h => absurd h (Nat.not_lt_zero i)
theorem okK_next {S : St} {k : Nat} {v : Vh} {l : List (Int × Int)} (h : okK S k) (hv : S.vs[k]? = some v) (hl : S.rows[k]? = some l) (h1 : okF v l S.t = true) (h2 : offB l (S.rows.take k) = true) : okK S (k + 1) := by
 intro i v' l' hi hv' hl'
 by_cases e : i = k
 · subst e
   rw [hv] at hv'; rw [hl] at hl'
   cases hv'; cases hl'
   exact ⟨h1, h2⟩
 · exact h i v' l' (by omega) hv' hl'
theorem okK_all {S : St} (h : okK S S.vs.length) (hc : 1 ≤ S.vs.length ∧ S.vs.length ≤ 4) (hl : S.rows.length = S.vs.length) : mayS S = true :=
 mayS_iff.2 ⟨hc, hl, fun i v l hv hl2 => h i v l (List.getElem?_eq_some_iff.1 hv).1 hv hl2⟩
end Go.Proofs.YteclpblfleakhaaDoor.Price
namespace Go.Proofs.YteclpblfleakhaaDoor.Plan
open Go.RowKit Go.Maps Go.Sort Go.Shelf Go.Proofs.YteclpblfleakhaaDoor.Mem Go.Proofs.YteclpblfleakhaaDoor.Route Go.Proofs.YteclpblfleakhaaDoor.When Go.Proofs.YteclpblfleakhaaDoor.Load
set_option linter.unusedVariables false
theorem keys_tell {w : World} {b n : Nat} {R : Value → Option (DataW Unit × List MemPlace)} {D : DataW Unit} (hown : w.ownsMap Tryd.prog 3 R b n D) : (intKeys D).Nodup ∧ ∀ x, x ∈ intKeys D ↔ Maps.has D (.int .i64 x) = true := by
 obtain ⟨es, hD, hpw, _⟩ := hown.entries (Maps.int_keyed Tryd.underlying3)
 obtain ⟨es', hD', hko⟩ := hown.keysOf
 obtain rfl : es = es' := by rw [hD] at hD'; simpa using hD'
 subst hD
 have hk : ∀ p ∈ es, ∃ x, p.1 = Lit.int .i64 x := fun p hp => by
  obtain ⟨v, hv⟩ := hko p hp
  obtain ⟨x, _, hx, _⟩ := Maps.keyOf_i64 Tryd.underlying3 hv
  exact ⟨x, hx⟩
 constructor
 · show (es.map fun p => Go.intOf p.1).Nodup
   refine List.pairwise_map.2 (hpw.imp_of_mem fun {p q} hp' hq' hne e => hne ?_)
   obtain ⟨a, ha⟩ := hk p hp'
   obtain ⟨c, hc⟩ := hk q hq'
   rw [ha, hc] at e ⊢
   exact congrArg _ e
 · intro x
   rw [has_eq, List.any_eq_true]
   show x ∈ es.map (fun p => Go.intOf p.1) ↔ _
   rw [List.mem_map]
   constructor
   · rintro ⟨p, hp', rfl⟩
     obtain ⟨a, ha⟩ := hk p hp'
     exact ⟨p, hp', by rw [ha]; simp [Lit.sameKey, Go.intOf]⟩
   · rintro ⟨p, hp', hs⟩
     obtain ⟨a, ha⟩ := hk p hp'
     rw [ha] at hs
     exact ⟨p, hp', by rw [ha]; simpa [Lit.sameKey, Go.intOf] using hs⟩
theorem few : ∀ (m : Nat) (l : List Int), l.Nodup → (∀ x ∈ l, 0 ≤ x ∧ x < m) → l.length ≤ m
 | 0, l, _, h => by
  cases l with
  | nil => exact Nat.le_refl _
  | cons x l => have := h x (by simp); omega
 | m + 1, l, hn, h => by
  by_cases hm : (m : Int) ∈ l
  · have h1 := few m (l.erase m) (hn.erase _) (fun x hx => by
     have h2 := (hn.mem_erase_iff).1 hx
     have := h x h2.2
     have := h2.1
     omega)
    rw [List.length_erase_of_mem hm] at h1
    omega
  · have := few m l hn (fun x hx => by
     have h2 := h x hx
     have : x ≠ m := fun e => hm (by rw [← e]; exact hx)
     omega)
    omega
theorem map_tight {w : World} {b n : Nat} {f : Int → Option Int} (h : MapAt w b n f) {m : Nat} (hf : ∀ r, (f r).isSome = true → 0 ≤ r ∧ r < m) : MapAt w b m f := by
 obtain ⟨D, hown, hD⟩ := h
 obtain ⟨k1, k2⟩ := keys_tell hown
 have hlen := few m (intKeys D) k1 (fun x hx => hf x (by rw [← (hD x).1]; exact (k2 x).1 hx))
 obtain ⟨es, clock, hb, F, hs, e⟩ := hown
 refine ⟨D, ⟨es, clock, hb, F, ?_, e⟩, hD⟩
 have : (intKeys D).length = es.size := by
  rw [e]
  unfold intKeys
  simp only [List.length_map, length_sorted, Array.length_toList]
 omega
end Go.Proofs.YteclpblfleakhaaDoor.Plan

/-
  A map of numbers that a call has made, as a set; its keys, rising, by the library's own contracts of maps.Keys and slices.Sorted.
-/
import Derived.Test.YtphfjaelglafnaaDoorShelf
import Derived.Test.YtphfjaelglafnaaDoorLoadMath
import Derived.Test.YtphfjaelglafnaaDoorMapN
import Derived.Test.YtphfjaelglafnaaDoorRouteLen
namespace Go.Proofs.YtphfjaelglafnaaDoor.Load
open Go.RowKit Go.Maps Go.Sort Go.Shelf Go.Proofs.YtphfjaelglafnaaDoor.Mem Go.Proofs.YtphfjaelglafnaaDoor.Route
set_option linter.unusedVariables false

/-- How what is no value reads. -/
def noneR (v : Value) : Option (DataW Unit × List MemPlace) := some (.agg [], [])
/-- Block b is a map of n entries at most, whose keys are just the numbers of which f holds. -/
def SetAt (w : World) (b n : Nat) (f : Int → Bool) : Prop :=
  ∃ D : DataW Unit, w.ownsMap Tryd.prog 3 noneR b n D ∧ ∀ r, Maps.has D (.int .i64 r) = f r
variable {w v : World} {b n : Nat} {f : Int → Bool}
theorem SetAt.inside (h : SetAt w b n f) : b < w.heap.size := h.elim fun _ h => h.1.lt
theorem SetAt.same (h : SetAt w b n f) (e : v.heap[b]? = w.heap[b]?) : SetAt v b n f := by
  obtain ⟨D, ⟨es, clock, h1, h2⟩, h3⟩ := h
  exact ⟨D, ⟨es, clock, e.trans h1, h2⟩, h3⟩
theorem SetAt.alloc (h : SetAt w b n f) (o : Obj) : SetAt (w.alloc o) b n f := h.same (Below.heap_alloc w o b h.inside)
theorem SetAt.more (h : SetAt w b n f) {m : Nat} (hm : n ≤ m) : SetAt w b m f := h.elim fun D h => ⟨D, h.1.mono hm, h.2⟩
theorem SetAt.funs (h : SetAt w b n f) {g : Int → Bool} (e : ∀ r, g r = f r) : SetAt w b n g := by
  have : g = f := funext e
  rw [this]; exact h
theorem SetAt.made (w : World) : SetAt (w.alloc (.map #[] 0)) w.heap.size 0 (fun _ => false) :=
  ⟨_, World.ownsMap_made w _ _ _, fun r => rfl⟩
theorem put_set {D : DataW Unit} (hm : Maps.IsMap D) {f : Int → Bool} {r : Int} (h : ∀ r, Maps.has D (.int .i64 r) = f r) (hk : WideAt.IsKeyLit (.int .i64 r)) (d : DataW Unit) (q : Int) :
    Maps.has (D.put (.int .i64 r) d) (.int .i64 q) = (fun q => if r = q then true else f q) q := by
  by_cases hq : r = q
  · subst hq
    simp only [if_true]
    exact Maps.has_put_same hm hk _
  · have hne : (Lit.int .i64 q) ≠ .int .i64 r := fun e => hq (by injection e with _ e; exact e.symm)
    simp only [if_neg hq]
    exact (Maps.has_put_other hne _).trans (h q)
theorem del_set {D : DataW Unit} {f : Int → Bool} {r : Int} (h : ∀ r, Maps.has D (.int .i64 r) = f r) (q : Int) :
    Maps.has (D.del (.int .i64 r)) (.int .i64 q) = (fun q => if r = q then false else f q) q := by
  by_cases hq : r = q
  · subst hq
    simp only [if_true]
    exact Maps.has_del_same
  · have hne : (Lit.int .i64 q) ≠ .int .i64 r := fun e => hq (by injection e with _ e; exact e.symm)
    simp only [if_neg hq]
    exact (Maps.has_del_other hne).trans (h q)

/-- A map's keys, as numbers: each once, just those that it has. -/
theorem keys_tell {D : DataW Unit} (hown : w.ownsMap Tryd.prog 3 noneR b n D) : (intKeys D).Nodup ∧ ∀ x, x ∈ intKeys D ↔ Maps.has D (.int .i64 x) = true := by
  obtain ⟨es, hD, hpw, _⟩ := hown.entries (Maps.int_keyed Tryd.underlying3)
  obtain ⟨es', hD', hko⟩ := hown.keysOf
  obtain rfl : es = es' := by rw [hD] at hD'; simpa using hD'
  subst hD
  have hk : ∀ p ∈ es, ∃ x, p.1 = Lit.int .i64 x := fun p hp => by
    obtain ⟨v, hv⟩ := hko p hp
    obtain ⟨x, _, hx, _⟩ := Maps.keyOf_i64 Tryd.underlying3 hv
    exact ⟨x, hx⟩
  constructor
  · show (es.map fun p => Go.intOf p.1).Nodup
    refine List.pairwise_map.2 (hpw.imp_of_mem fun {p q} hp' hq' hne e => hne ?_)
    obtain ⟨a, ha⟩ := hk p hp'
    obtain ⟨c, hc⟩ := hk q hq'
    rw [ha, hc] at e ⊢
    exact congrArg _ e
  · intro x
    rw [has_eq, List.any_eq_true]
    show x ∈ es.map (fun p => Go.intOf p.1) ↔ _
    rw [List.mem_map]
    constructor
    · rintro ⟨p, hp', rfl⟩
      obtain ⟨a, ha⟩ := hk p hp'
      exact ⟨p, hp', by rw [ha]; simp [Lit.sameKey, Go.intOf]⟩
    · rintro ⟨p, hp', hs⟩
      obtain ⟨a, ha⟩ := hk p hp'
      rw [ha] at hs
      exact ⟨p, hp', by rw [ha]; simpa [Lit.sameKey, Go.intOf] using hs⟩
theorem sort_rise {l : List Int} (h : l.Nodup) : Rise (l.mergeSort leI) := by
  have tr : ∀ a b c : Int, leI a b = true → leI b c = true → leI a c = true := fun a b c h1 h2 => by simp only [leI, decide_eq_true_eq] at *; exact Int.le_trans h1 h2
  have tt : ∀ a b : Int, (leI a b || leI b a) = true := fun a b => by simp only [leI, Bool.or_eq_true, decide_eq_true_eq]; exact Int.le_total a b
  have h1 := List.pairwise_mergeSort tr tt l
  have h2 : (l.mergeSort leI).Nodup := (List.mergeSort_perm l leI).nodup_iff.2 h
  refine (h1.and h2).imp fun {a c} hac => ?_
  have := hac.1
  have h4 := hac.2
  simp only [leI, decide_eq_true_eq] at this
  omega

theorem flatI_map : ∀ a : List Int, flatI a = a.map encZ
  | [] => rfl
  | x :: a => by
    have : flatI (x :: a) = inV x ++ flatI a := by simp [flatI]
    rw [this, flatI_map a]
    rfl

/-- slices.Sort's two contracts here. -/
theorem sorts (m : Nat) : AnyZI.SortsIn Tryd.prog Tryd.sortedA_ren Fence.wide m :=
  ⟨fun blk off cap ss W hH hblk hsz => callsIn_wide.2 (AnyM.slices_Sort_int Tryd.sortA blk off cap ss W hH hblk hsz),
   fun p cap W => callsIn_wide.2 (AnyM.slices_Sort_int_none Tryd.sortA p cap W)⟩

theorem Keys_any (mb : Option Nat) (w : World) : Calls Tryd.prog 30 #[.map mb] w fun e w' =>
    e = .returned (.func (.func 51) #[] #[.pointer (some ⟨w.heap.size, 0, none⟩)]) ∧ w' = w.alloc (.cells #[.map mb] 70) :=
  (callsIn_wide (n := 6)).1 (AnyZI.keys_in Tryd.keysA Fence.wide 6 trivial rfl mb w)

set_option maxHeartbeats 1000000 in
theorem Sorted_any (b n : Nat) (f : Int → Bool) (hn : n ≤ 1000000) (a : List Int) (ha : Rise a) (hf : ∀ r, r ∈ a ↔ f r = true) (w : World) (h : SetAt w b n f) :
    Calls Tryd.prog 29 #[.func (.func 51) #[] #[.pointer (some ⟨w.heap.size, 0, none⟩)]] (w.alloc (.cells #[.map (some b)] 70)) fun e w' =>
      (∃ v, e = .returned v ∧ Ints w'.heap.size w' v a ∧ New w.heap.size v) ∧ Below w.heap.size w w' := by
  obtain ⟨D, hown, hD⟩ := h
  have hsz := hown.size_le
  have hbl := hown.lt
  obtain ⟨hk1, hk2⟩ := keys_tell hown
  have hseq : SeqGives Fence.wide 3 Tryd.prog 51 #[.pointer (some ⟨w.heap.size, 0, none⟩)] encZ (fun ss => ss.Perm (intKeys D)) (Maps.size D) (w.alloc (.cells #[.map (some b)] 70)) :=
    AnyZI.keys_gives (ρ := Tryd.keysA_ren) { Tryd.keysA with } Fence.wide _ trivial rfl (by omega) w.heap.size b n D _ (by simp) (by simp) (by
      obtain ⟨es, clock, hb, Ft, hs, hD⟩ := hown
      exact ⟨es, clock, (Below.heap_alloc _ _ b hbl).trans hb, Ft, hs, hD⟩)
  have cS := AnyZI.sorted_in Tryd.sortedA Fence.wide 6 trivial trivial trivial trivial rfl (by omega) (sorts _) (enters_of Tryd.func50 (by kernel_rfl) rfl) 51 #[.pointer (some ⟨w.heap.size, 0, none⟩)] trivial (enters_of Tryd.func51 (by kernel_rfl) rfl) _ _ (by unfold maxLen; omega) (by omega) _ hseq
  refine ((callsIn_wide (n := 6)).1 cS).mono ?_
  rintro e w' ⟨v, ss, rfl, hS, hrow, hnil, hb⟩
  have he : ss.mergeSort (fun x y => decide (x ≤ y)) = a := by
    refine rise_ext (sort_rise (hS.nodup_iff.2 hk1)) ha fun r => ?_
    rw [hf r, ← hD r, ← hk2 r]
    exact ((List.mergeSort_perm ss leI).mem_iff).trans hS.mem_iff
  rw [he] at hrow
  have hlen : ss.length = a.length := by rw [← he]; simp
  refine ⟨⟨v, rfl, ?_, fun r e => ?_⟩, ((Below.refl _ w).alloc (Nat.le_refl _) _).trans (hb.mono (by simp))⟩
  · refine Ints.of_owns (base := (w.alloc (.cells #[.map (some b)] 70)).heap.size) (n := ss.length) (e := 3) ?_ hlen (Nat.le_refl _)
    rw [flatI_map a]
    exact hrow
  · have := owns_row hrow r e
    simp at this
    omega

end Go.Proofs.YtphfjaelglafnaaDoor.Load

/-
  What LoadLess asks, in plain lists: a route without one of its requests; the first stop that is fuller; vehicles that just fit.
-/
import Derived.Test.YtphfjaelglafnaaDoorLoadLaw
import Derived.Test.YtphfjaelglafnaaDoorLoadRefProf
namespace Go.Proofs.YtphfjaelglafnaaDoor.Load
open Go.RowKit Go.Proofs.YtphfjaelglafnaaDoor.Mem Go.Proofs.YtphfjaelglafnaaDoor.Route Go.Proofs.YtphfjaelglafnaaDoor.When
set_option linter.unusedVariables false

/-- A vehicle with so much room, and no time. -/
def room (c : Int) : Vh := ⟨0, 0, c, 0, 0⟩
theorem room_chk {c : Int} (h1 : 1 ≤ c) (h2 : c ≤ 100000) : (room c).chk = 0 := by
  have d0 : Place.mayB (0, 0) = true := by decide
  have d1 : Order.btwB 0 0 1048576 = true := by decide
  have d2 : Order.btwB c 1 100000 = true := by simp [Order.btwB]; omega
  unfold Vh.chk room Order.veh
  simp only [d0, d1, d2]
  rfl
theorem fst_more {C : Int} : ∀ {p : List Int}, (∃ x ∈ p, C < x) → ∃ (k : Nat) (x : Int), p[k]? = some x ∧ C < x ∧ ∀ y ∈ p.take k, y ≤ C
  | [], h => by obtain ⟨x, hx, _⟩ := h; cases hx
  | z :: p, h => by
    by_cases hz : C < z
    · exact ⟨0, z, rfl, hz, fun y hy => by simp at hy⟩
    · have : ∃ x ∈ p, C < x := by
        obtain ⟨x, hx, hc⟩ := h
        rcases List.mem_cons.1 hx with rfl | hx
        · exact absurd hc hz
        · exact ⟨x, hx, hc⟩
      obtain ⟨k, x, h1, h2, h3⟩ := fst_more this
      refine ⟨k + 1, x, by simpa using h1, h2, fun y hy => ?_⟩
      rw [List.take_succ_cons] at hy
      rcases List.mem_cons.1 hy with rfl | hy
      · omega
      · exact h3 y hy
theorem peak_le {l : List (Int × Int)} {t : List Rq} (h : toldV l t = 0) : 0 ≤ peakL (prof t l) ∧ peakL (prof t l) ≤ 16000 := by
  obtain ⟨h1, h2, h3⟩ := peakL_bd (prof t l)
  refine ⟨h1, ?_⟩
  rcases Int.lt_or_le 0 (peakL (prof t l)) with h4 | h4
  · exact (prof_bd h _ (h3 h4)).2
  · omega
theorem fit_just {l : List (Int × Int)} {t : List Rq} (h : toldV l t = 0) (hp : 0 < peakL (prof t l)) : fitAt (room (peakL (prof t l))) l t = -1 ∧ fitE (room (peakL (prof t l))) l t = 0 := by
  have h2 := peak_le h
  have := fit_none (v := room (peakL (prof t l))) (l := l) (t := t) (room_chk (by omega) (by omega)) (by rw [prof_told h]; exact (peakL_bd _).2.1)
  rwa [h] at this
theorem fit_less {l : List (Int × Int)} {t : List Rq} (h : toldV l t = 0) (hp : 1 < peakL (prof t l)) : ∃ k : Nat, fitAt (room (peakL (prof t l) - 1)) l t = k ∧ fitE (room (peakL (prof t l) - 1)) l t = 10 ∧ (prof t l)[k]? = some (peakL (prof t l)) := by
  have h2 := peak_le h
  obtain ⟨_, h3, h4⟩ := peakL_bd (prof t l)
  obtain ⟨k, x, e1, e2, e3⟩ := fst_more (C := peakL (prof t l) - 1) ⟨_, h4 (by omega), by omega⟩
  have e4 := h3 x (List.mem_of_getElem? e1)
  obtain rfl : x = peakL (prof t l) := by omega
  have := fit_at (v := room (peakL (prof t l) - 1)) (l := l) (t := t) (room_chk (by omega) (by omega)) (k := k) (x := peakL (prof t l)) (by rw [prof_told h]; exact e1) (by rw [prof_told h]; exact e3) e2
  exact ⟨k, this.1, this.2, e1⟩

/-- Which stop of the rest the i-th stop is, or the next one that is. -/
def kOf (P D i : Nat) : Nat := if i ≤ P then i else if i ≤ D then i - 1 else i - 2
section
variable {a b c : List (Int × Int)} {r : Int} {t : List Rq} {i : Nat}
theorem kOf_skip {P D : Nat} (h : P < D) (hi : i = P ∨ i = D) : kOf P D (i + 1) = kOf P D i := by
  unfold kOf
  rcases hi with rfl | rfl
  · rw [if_neg (by omega), if_pos (by omega), if_pos (by omega)]; omega
  · rw [if_neg (by omega), if_neg (by omega), if_neg (by omega), if_pos (by omega)]; omega
theorem kOf_next {P D : Nat} (h : P < D) (h1 : i ≠ P) (h2 : i ≠ D) : kOf P D (i + 1) = kOf P D i + 1 := by
  unfold kOf
  rcases Nat.lt_or_ge i P with h3 | h3
  · rw [if_pos (by omega), if_pos (by omega)]
  · rcases Nat.lt_or_ge i D with h4 | h4
    · rw [if_neg (by omega), if_pos (by omega), if_neg (by omega), if_pos (by omega)]; omega
    · rw [if_neg (by omega), if_neg (by omega), if_neg (by omega), if_neg (by omega)]; omega
theorem less_a (hi : i < a.length) : acc t ((a ++ b ++ c).take (i + 1)) = acc t ((a ++ (r, 0) :: (b ++ (r, 1) :: c)).take (i + 1)) := by
  rw [List.append_assoc, List.take_append_of_le_length (by omega), List.take_append_of_le_length (by omega)]
theorem less_b (h1 : a.length < i) (h2 : i < a.length + b.length + 1) : acc t ((a ++ b ++ c).take i) = acc t ((a ++ (r, 0) :: (b ++ (r, 1) :: c)).take (i + 1)) - ldR t r := by
  obtain ⟨j, rfl⟩ : ∃ j, i = a.length + (j + 1) := ⟨i - a.length - 1, by omega⟩
  have e1 : (a ++ b ++ c).take (a.length + (j + 1)) = a ++ b.take (j + 1) := by
    rw [List.append_assoc, List.take_append, List.take_of_length_le (by omega), Nat.add_sub_cancel_left, List.take_append_of_le_length (by omega)]
  have e2 : (a ++ (r, 0) :: (b ++ (r, 1) :: c)).take (a.length + (j + 1) + 1) = a ++ (r, 0) :: b.take (j + 1) := by
    rw [List.take_append, List.take_of_length_le (by omega), show a.length + (j + 1) + 1 - a.length = (j + 1) + 1 by omega, List.take_succ_cons, List.take_append_of_le_length (by omega)]
  rw [e1, e2, acc_append, acc_append, acc]
  simp [stN, sg]
  omega
theorem less_c (h1 : a.length + b.length + 1 < i) : acc t ((a ++ b ++ c).take (i - 1)) = acc t ((a ++ (r, 0) :: (b ++ (r, 1) :: c)).take (i + 1)) := by
  obtain ⟨j, rfl⟩ : ∃ j, i = a.length + b.length + 2 + j := ⟨i - (a.length + b.length + 2), by omega⟩
  have e1 : (a ++ b ++ c).take (a.length + b.length + 2 + j - 1) = a ++ b ++ c.take (j + 1) := by
    rw [List.take_append, List.take_of_length_le (by simp; omega)]
    simp
    congr 1
    omega
  have e2 : (a ++ (r, 0) :: (b ++ (r, 1) :: c)).take (a.length + b.length + 2 + j + 1) = a ++ (r, 0) :: (b ++ (r, 1) :: c.take (j + 1)) := by
    rw [List.take_append, List.take_of_length_le (by omega), show a.length + b.length + 2 + j + 1 - a.length = (b.length + (1 + (j + 1))) + 1 by omega, List.take_succ_cons, List.take_append, List.take_of_length_le (by omega), show b.length + (1 + (j + 1)) - b.length = (j + 1) + 1 by omega, List.take_succ_cons]
  rw [e1, e2, acc_append, acc_append, acc_append, acc, acc_append, acc]
  simp [stN, sg]
  omega
theorem wo_parts (h : noR r (a ++ b ++ c) = true) : woL r (a ++ (r, 0) :: (b ++ (r, 1) :: c)) = a ++ b ++ c := by
  rw [wo_append, wo_own, wo_append, wo_own]
  rw [noR_append, noR_append] at h
  rw [wo_self h.1.1, wo_self h.1.2, wo_self h.2, List.append_assoc]
end
theorem less_all {l : List (Int × Int)} (t : List Rq) (h : isR l = true) {s : Int × Int} (hs : s ∈ l) : ∃ P D : Nat, P < D ∧ D < l.length ∧ ixV (s.1, 0) l = P ∧ ixV (s.1, 1) l = D ∧ (woL s.1 l).length + 2 = l.length ∧
    (∀ i, i < l.length → i < P → (prof t (woL s.1 l))[kOf P D i]? = some (acc t (l.take (i + 1)))) ∧
    (∀ i, i < l.length → P < i → i < D → (prof t (woL s.1 l))[kOf P D i]? = some (acc t (l.take (i + 1)) - ldR t s.1)) ∧
    (∀ i, i < l.length → D < i → (prof t (woL s.1 l))[kOf P D i]? = some (acc t (l.take (i + 1)))) := by
  obtain ⟨h0, a, b, c, hl, hno⟩ := route_parts h hs
  obtain ⟨r, hr⟩ : ∃ r, s.1 = r := ⟨_, rfl⟩
  rw [hr] at hl hno ⊢
  clear hs hr
  subst hl
  have hix := ix_parts a b c hno
  rw [wo_parts hno]
  refine ⟨a.length, a.length + b.length + 1, by omega, by simp; omega, hix.1, hix.2, by simp; omega, fun i hi h1 => ?_, fun i hi h1 h2 => ?_, fun i hi h1 => ?_⟩
  · have e : kOf a.length (a.length + b.length + 1) i = i := by unfold kOf; rw [if_pos (by omega)]
    rw [e, prof_get (by simp; omega), less_a h1]
  · have e : kOf a.length (a.length + b.length + 1) i = i - 1 := by unfold kOf; rw [if_neg (by omega), if_pos (by omega)]
    rw [e, prof_get (by simp; omega), show i - 1 + 1 = i by omega, less_b h1 h2]
  · have e : kOf a.length (a.length + b.length + 1) i = i - 2 := by unfold kOf; rw [if_neg (by omega), if_neg (by omega)]
    have hi' : i < a.length + (b.length + (c.length + 1) + 1) := by simpa using hi
    rw [e, prof_get (by simp; omega), show i - 2 + 1 = i - 1 by omega, less_c h1]
theorem told_wo {l : List (Int × Int)} {t : List Rq} {k : Nat} (hD : Drawn l k) (hk : k ≤ 6) (ht : OkT t) (hn : 6 ≤ t.length) (r : Int) : toldV (woL r l) t = 0 := by
  have hR : isR (woL r l) = true := by
    rw [isR_iff]
    intro s hs
    obtain ⟨h1, h2⟩ := List.mem_filter.1 hs
    have h3 : s.1 ≠ r := by simpa using h2
    have := isR_iff.1 hD.1 s h1
    rw [ofR_wo h3]
    exact this
  have hlen := wo_length r l
  have h2k := hD.2.1
  have hc : checkV (woL r l) = 0 := by
    unfold checkV
    rw [if_neg (by omega), if_pos hR]
  have ht0 := told_drawn hD hk ht hn
  have hin := (told_bits ht0).2.2
  refine told_ok hc ?_ ?_
  · rw [Bool.eq_false_iff]
    intro h
    obtain ⟨s, hs, e⟩ := List.any_eq_true.1 h
    have := hD.2.2 s (List.mem_filter.1 hs).1
    simp [outB] at e
    omega
  · rw [Bool.eq_false_iff]
    intro h
    obtain ⟨s, hs, e⟩ := List.any_eq_true.1 h
    obtain ⟨q, hq, _⟩ := hin s (List.mem_filter.1 hs).1
    unfold badB at e
    rw [hq] at e
    have := ht q (List.mem_of_getElem? hq)
    simp [this] at e

end Go.Proofs.YtphfjaelglafnaaDoor.Load

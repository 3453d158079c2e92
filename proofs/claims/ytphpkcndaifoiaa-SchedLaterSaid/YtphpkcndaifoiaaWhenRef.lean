/-
  Contracts of the document's Place, Window, Wrong and Same.
-/
import Derived.Test.YtphpkcndaifoiaaWhenMild
import Derived.Test.YtphpkcndaifoiaaOrderChkRef
import Derived.Test.YtphpkcndaifoiaaWindowRef
namespace Go.Proofs.Ytphpkcndaifoiaa.When
open Go.RowKit Go.Proofs.Ytphpkcndaifoiaa.Mem Go.Proofs.Ytphpkcndaifoiaa.Route
set_option linter.unusedVariables false

set_option maxHeartbeats 1000000 in
theorem refPlace_any (s1 s2 : Int) (v : Value) (t : List Rq) (w : World) (h : Rqs w.heap.size w v t) :
    Calls Try.prog 14 #[.agg #[.int .i64 s1, .int .i64 s2], v] w fun e w' => e = .returned (.tuple #[.agg #[.int .i64 (visV t (s1, s2)).px, .int .i64 (visV t (s1, s2)).py], .bool (visB t (s1, s2))]) ∧ Below w.heap.size w w' := by
  obtain ⟨x, N, cap, rfl, hN, hc1, hc2, hx⟩ := h.opened
  by_cases h1 : s1 < 0
  · have ho := vis_none (visO_out (t := t) (s := (s1, s2)) (by simp [inT]; omega))
    rw [ho.1, ho.2]
    clear ho h hN hx
    go_enter Try.func14, Try.ntmps14
    go_wp2
    refine bodyPost_ret (res_pl rfl rfl rfl (x0 := .int .i64 0) (x1 := .int .i64 0) (by go_simp) (by go_simp)) rfl ?_
    exact ⟨ret_two rfl rfl rfl, by repeat (first | exact Below.refl _ _ | refine Below.alloc ?_ (by simp <;> omega) _ | refine Below.setCell ?_ (by simp <;> omega) _)⟩
  · by_cases h2 : (N : Int) ≤ s1
    · have ho := vis_none (visO_out (t := t) (s := (s1, s2)) (by simp [inT]; omega))
      rw [ho.1, ho.2]
      clear ho h hN hx
      go_enter Try.func14, Try.ntmps14
      go_wp2
      refine bodyPost_ret (res_pl rfl rfl rfl (x0 := .int .i64 0) (x1 := .int .i64 0) (by go_simp) (by go_simp)) rfl ?_
      exact ⟨ret_two rfl rfl rfl, by repeat (first | exact Below.refl _ _ | refine Below.alloc ?_ (by simp <;> omega) _ | refine Below.setCell ?_ (by simp <;> omega) _)⟩
    · have hi : inT t s1 = true := by simp [inT]; omega
      obtain ⟨q, hq, _, _⟩ := inT_get hi
      obtain ⟨k, rfl⟩ : ∃ k : Nat, s1 = k := ⟨s1.toNat, by omega⟩
      simp only [Int.toNat_natCast] at hq
      obtain ⟨g, o, rfl, hg, c0, c1, c2, c3, c4, c5, c6, c7, c8, c9⟩ := h.at hq
      have hk : k < N := by omega
      have hk2 : ((k : Int) < N) := by omega
      by_cases e0 : s2 = 0
      · have ho := vis_some (visO_pick (t := t) (s := (k, s2)) (q := q) hi (by simpa using hq) e0)
        rw [ho.1, ho.2]
        subst e0
        clear ho h hN hx hq hi
        go_enter Try.func14, Try.ntmps14
        go_wp2
        refine bodyPost_ret (res_pl rfl rfl rfl (x0 := .int .i64 q.fx) (x1 := .int .i64 q.fy) (by go_simp) (by go_simp)) rfl ?_
        exact ⟨ret_two rfl rfl rfl, by repeat (first | exact Below.refl _ _ | refine Below.alloc ?_ (by simp <;> omega) _ | refine Below.setCell ?_ (by simp <;> omega) _)⟩
      · by_cases e1 : s2 = 1
        · have ho := vis_some (visO_drop (t := t) (s := (k, s2)) (q := q) hi (by simpa using hq) e1)
          rw [ho.1, ho.2]
          subst e1
          clear ho h hN hx hq hi
          go_enter Try.func14, Try.ntmps14
          go_wp2
          refine bodyPost_ret (res_pl rfl rfl rfl (x0 := .int .i64 q.tx) (x1 := .int .i64 q.ty) (by go_simp) (by go_simp)) rfl ?_
          exact ⟨ret_two rfl rfl rfl, by repeat (first | exact Below.refl _ _ | refine Below.alloc ?_ (by simp <;> omega) _ | refine Below.setCell ?_ (by simp <;> omega) _)⟩
        · have ho := vis_none (visO_odd (t := t) (s := (k, s2)) e0 e1)
          rw [ho.1, ho.2]
          have b0 : (s2 == 0) = false := by simpa using e0
          have b1 : (s2 == 1) = false := by simpa using e1
          have b2 : (s2 != 0) = true := by simpa using e0
          have b3 : (s2 != 1) = true := by simpa using e1
          clear ho h hN hx hq hi
          go_enter Try.func14, Try.ntmps14
          go_wp2
          refine bodyPost_ret (res_pl rfl rfl rfl (x0 := .int .i64 0) (x1 := .int .i64 0) (by go_simp) (by go_simp)) rfl ?_
          exact ⟨ret_two rfl rfl rfl, by repeat (first | exact Below.refl _ _ | refine Below.alloc ?_ (by simp <;> omega) _ | refine Below.setCell ?_ (by simp <;> omega) _)⟩

set_option maxHeartbeats 1000000 in
theorem refWindow_any (s1 s2 : Int) (v : Value) (t : List Rq) (w : World) (h : Rqs w.heap.size w v t) :
    Calls Try.prog 16 #[.agg #[.int .i64 s1, .int .i64 s2], v] w fun e w' => e = .returned (.tuple #[.agg #[.int .i64 (visV t (s1, s2)).we, .int .i64 (visV t (s1, s2)).wl], .bool (visB t (s1, s2))]) ∧ Below w.heap.size w w' := by
  obtain ⟨x, N, cap, rfl, hN, hc1, hc2, hx⟩ := h.opened
  have hb0 : Below w.heap.size w ((w.alloc (.cells #[.int .i64 s1, .int .i64 s2] 45)).alloc (.cells #[.int .i64 0, .int .i64 0] 47)) := ((Below.refl _ _).alloc (Nat.le_refl _) _).alloc (by simp) _
  have hv := refPlace_any s1 s2 _ t _ (h.on hb0)
  obtain ⟨w0, hw0⟩ : ∃ w0, (w.alloc (.cells #[.int .i64 s1, .int .i64 s2] 45)).alloc (.cells #[.int .i64 0, .int .i64 0] 47) = w0 := ⟨_, rfl⟩
  have hS0 : At w0 w.heap.size 45 #[.int .i64 s1, .int .i64 s2] := by rw [← hw0]; exact (At.new _ _ _).alloc _
  have hR0 : At w0 (w.heap.size + 1) 47 #[.int .i64 0, .int .i64 0] := by rw [← hw0]; exact At.new_ _ _ _ (by simp)
  rw [hw0] at hv hb0
  have hT0 := h.on hb0
  have hw0' := Lib.hid hw0
  have hN' := Lib.hid hN
  clear hw0 h hN hx
  cases ho : visO t (s1, s2) with
  | none =>
    have hvn := vis_none ho
    rw [hvn.1, hvn.2] at hv ⊢
    clear hvn ho
    go_enter Try.func16, Try.ntmps16
    go_wp2_with fail
    rw [hw0'.out]
    refine hv.mono ?_
    clear hv
    rintro e w1 ⟨rfl, hb1⟩
    have hR1 := hR0.keep hb1 hR0.inside
    have hB1 := hb0.trans (hb1.mono hb0.size)
    have hlt := hR1.inside
    have z0 := hR1.cell 0
    have z1 := hR1.cell 1
    have zf := hR1.free
    simp at z0 z1
    clear hb1 hR0 hS0 hb0 hT0
    go_wp2
    refine bodyPost_ret (res_wi rfl rfl rfl (x0 := .int .i64 0) (x1 := .int .i64 0) (by go_simp) (by go_simp)) rfl ?_
    exact ⟨ret_two rfl rfl rfl, by repeat (first | exact hB1 | refine Below.alloc ?_ (by simp <;> omega) _ | refine Below.setCell ?_ (by simp <;> omega) _)⟩
  | some u =>
    have hvn := vis_some ho
    obtain ⟨q, hq, h1, h2, _, hk⟩ := visO_some ho
    rw [hvn.1, hvn.2] at hv ⊢
    clear hvn ho
    obtain ⟨k, rfl⟩ : ∃ k : Nat, s1 = k := ⟨s1.toNat, by simp only at h1; omega⟩
    simp only [Int.toNat_natCast] at hq
    have hkN : k < N := by rw [← hN'.out]; simp only at h2; omega
    have hkN2 : (k : Int) < N := by omega
    clear h1 h2
    rcases hk with ⟨e0, hu⟩ | ⟨e0, hu⟩
    · simp only at e0
      subst e0
      rw [hu] at hv ⊢
      clear hu
      go_enter Try.func16, Try.ntmps16
      go_wp2_with fail
      rw [hw0'.out]
      refine hv.mono ?_
      clear hv
      rintro e w1 ⟨rfl, hb1⟩
      obtain ⟨g, o, rfl, hg, c0, c1, c2, c3, c4, c5, c6, c7, c8, c9⟩ := (hT0.on hb1).at hq
      have hR1 := hR0.keep hb1 hR0.inside
      have hS1 := hS0.keep hb1 hS0.inside
      have hB1 := hb0.trans (hb1.mono hb0.size)
      have hlt := hR1.inside
      have hlt2 := hS1.inside
      have z0 := hR1.cell 0
      have z1 := hR1.cell 1
      have zf := hR1.free
      have y0 := hS1.cell 0
      have y1 := hS1.cell 1
      simp at z0 z1 y0 y1
      clear hb1 hR0 hS0 hb0 hT0 hq
      go_wp2
      refine bodyPost_ret (res_wi rfl rfl rfl (x0 := .int .i64 q.pe) (x1 := .int .i64 q.pl) (by go_simp) (by go_simp)) rfl ?_
      exact ⟨ret_two rfl rfl rfl, by repeat (first | exact hB1 | refine Below.alloc ?_ (by simp <;> omega) _ | refine Below.setCell ?_ (by simp <;> omega) _)⟩
    · simp only at e0
      subst e0
      rw [hu] at hv ⊢
      clear hu
      go_enter Try.func16, Try.ntmps16
      go_wp2_with fail
      rw [hw0'.out]
      refine hv.mono ?_
      clear hv
      rintro e w1 ⟨rfl, hb1⟩
      obtain ⟨g, o, rfl, hg, c0, c1, c2, c3, c4, c5, c6, c7, c8, c9⟩ := (hT0.on hb1).at hq
      have hR1 := hR0.keep hb1 hR0.inside
      have hS1 := hS0.keep hb1 hS0.inside
      have hB1 := hb0.trans (hb1.mono hb0.size)
      have hlt := hR1.inside
      have hlt2 := hS1.inside
      have z0 := hR1.cell 0
      have z1 := hR1.cell 1
      have zf := hR1.free
      have y0 := hS1.cell 0
      have y1 := hS1.cell 1
      simp at z0 z1 y0 y1
      clear hb1 hR0 hS0 hb0 hT0 hq
      go_wp2
      refine bodyPost_ret (res_wi rfl rfl rfl (x0 := .int .i64 q.de) (x1 := .int .i64 q.dl) (by go_simp) (by go_simp)) rfl ?_
      exact ⟨ret_two rfl rfl rfl, by repeat (first | exact hB1 | refine Below.alloc ?_ (by simp <;> omega) _ | refine Below.setCell ?_ (by simp <;> omega) _)⟩

end Go.Proofs.Ytphpkcndaifoiaa.When

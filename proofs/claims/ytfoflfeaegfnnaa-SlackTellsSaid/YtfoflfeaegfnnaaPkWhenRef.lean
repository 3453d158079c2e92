import Derived.Test.YtfoflfeaegfnnaaPkWhenMild
import Derived.Test.YtfoflfeaegfnnaaPkOrderChkRef
import Derived.Test.YtfoflfeaegfnnaaPkWindowRef

/-
  Contracts of the document's Place, Window, Wrong and Same.
-/
namespace Go.Proofs.Ytfoflfeaegfnnaa.When
open Go.RowKit Go.Proofs.Ytfoflfeaegfnnaa.Mem Go.Proofs.Ytfoflfeaegfnnaa.Route
set_option linter.unusedVariables false

set_option maxHeartbeats 1000000 in
theorem refPlace_any (s1 s2 : Int) (v : Value) (t : List Rq) (w : World) (h : Rqs w.heap.size w v t) :
    Calls Try.prog 46 #[.agg #[.int .i64 s1, .int .i64 s2], v] w fun e w' => e = .returned (.tuple #[.agg #[.int .i64 (visV t (s1, s2)).px, .int .i64 (visV t (s1, s2)).py], .bool (visB t (s1, s2))]) ∧ Below w.heap.size w w' := by
  obtain ⟨x, N, cap, rfl, hN, hc1, hc2, hx⟩ := h.opened
  by_cases h1 : s1 < 0
  · have ho := vis_none (visO_out (t := t) (s := (s1, s2)) (by simp [inT]; omega))
    rw [ho.1, ho.2]
    clear ho h hN hx
    go_enter Try.func46, Try.ntmps46
    go_wp2
    refine bodyPost_ret (res_pl rfl rfl rfl (x0 := .int .i64 0) (x1 := .int .i64 0) (by go_simp) (by go_simp)) rfl ?_
    exact ⟨ret_two rfl rfl rfl, by repeat (first | exact Below.refl _ _ | refine Below.alloc ?_ (by simp <;> omega) _ | refine Below.setCell ?_ (by simp <;> omega) _)⟩
  · by_cases h2 : (N : Int) ≤ s1
    · have ho := vis_none (visO_out (t := t) (s := (s1, s2)) (by simp [inT]; omega))
      rw [ho.1, ho.2]
      clear ho h hN hx
      go_enter Try.func46, Try.ntmps46
      go_wp2
      refine bodyPost_ret (res_pl rfl rfl rfl (x0 := .int .i64 0) (x1 := .int .i64 0) (by go_simp) (by go_simp)) rfl ?_
      exact ⟨ret_two rfl rfl rfl, by repeat (first | exact Below.refl _ _ | refine Below.alloc ?_ (by simp <;> omega) _ | refine Below.setCell ?_ (by simp <;> omega) _)⟩
    · have hi : inT t s1 = true := by simp [inT]; omega
      obtain ⟨q, hq, _, _⟩ := inT_get hi
      obtain ⟨k, rfl⟩ : ∃ k : Nat, s1 = k := ⟨s1.toNat, by omega⟩
      simp only [Int.toNat_natCast] at hq
      obtain ⟨g, o, rfl, hg, c0, c1, c2, c3, c4, c5, c6, c7, c8, c9⟩ := h.at hq
      have hk : k < N := by omega
      have hk2 : ((k : Int) < N) := by omega
      by_cases e0 : s2 = 0
      · have ho := vis_some (visO_pick (t := t) (s := (k, s2)) (q := q) hi (by simpa using hq) e0)
        rw [ho.1, ho.2]
        subst e0
        clear ho h hN hx hq hi
        go_enter Try.func46, Try.ntmps46
        go_wp2
        refine bodyPost_ret (res_pl rfl rfl rfl (x0 := .int .i64 q.fx) (x1 := .int .i64 q.fy) (by go_simp) (by go_simp)) rfl ?_
        exact ⟨ret_two rfl rfl rfl, by repeat (first | exact Below.refl _ _ | refine Below.alloc ?_ (by simp <;> omega) _ | refine Below.setCell ?_ (by simp <;> omega) _)⟩
      · by_cases e1 : s2 = 1
        · have ho := vis_some (visO_drop (t := t) (s := (k, s2)) (q := q) hi (by simpa using hq) e1)
          rw [ho.1, ho.2]
          subst e1
          clear ho h hN hx hq hi
          go_enter Try.func46, Try.ntmps46
          go_wp2
          refine bodyPost_ret (res_pl rfl rfl rfl (x0 := .int .i64 q.tx) (x1 := .int .i64 q.ty) (by go_simp) (by go_simp)) rfl ?_
          exact ⟨ret_two rfl rfl rfl, by repeat (first | exact Below.refl _ _ | refine Below.alloc ?_ (by simp <;> omega) _ | refine Below.setCell ?_ (by simp <;> omega) _)⟩
        · have ho := vis_none (visO_odd (t := t) (s := (k, s2)) e0 e1)
          rw [ho.1, ho.2]
          have b0 : (s2 == 0) = false := by simpa using e0
          have b1 : (s2 == 1) = false := by simpa using e1
          have b2 : (s2 != 0) = true := by simpa using e0
          have b3 : (s2 != 1) = true := by simpa using e1
          clear ho h hN hx hq hi
          go_enter Try.func46, Try.ntmps46
          go_wp2
          refine bodyPost_ret (res_pl rfl rfl rfl (x0 := .int .i64 0) (x1 := .int .i64 0) (by go_simp) (by go_simp)) rfl ?_
          exact ⟨ret_two rfl rfl rfl, by repeat (first | exact Below.refl _ _ | refine Below.alloc ?_ (by simp <;> omega) _ | refine Below.setCell ?_ (by simp <;> omega) _)⟩


end Go.Proofs.Ytfoflfeaegfnnaa.When

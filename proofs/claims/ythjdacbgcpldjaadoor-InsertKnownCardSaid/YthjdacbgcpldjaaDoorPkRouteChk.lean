import Derived.Test.YthjdacbgcpldjaaDoorPkRouteRefChk

/-
  The contracts of package route's requests, Check and Requests.
-/
namespace Go.Proofs.YthjdacbgcpldjaaDoor.Route
open Go.RowKit Go.Proofs.YthjdacbgcpldjaaDoor.Mem
set_option linter.unusedVariables false

theorem scan_drops_le (l : List (Int × Int)) : dropsN (scan [] l) ≤ l.length := by
  obtain ⟨_, t, ht⟩ := scan_steps (rest := l) Steps.nil
  rw [List.nil_append] at ht
  have h1 : dropsN (scan [] l) ≤ (scan [] l).length := List.length_filter_le ..
  have h2 := congrArg List.length ht
  rw [List.length_append] at h2
  omega
theorem reqs_long {l : List (Int × Int)} (h : 16 < l.length) : reqsL l = [] := reqs_bad (by rw [chk_long h]; omega)
theorem ret_vv {v : Value} {a b : Int} (h : a = b) : Ending.returned (.tuple #[v, .int .i64 a]) = .returned (.tuple #[v, .int .i64 b]) := by rw [h]

set_option maxRecDepth 100000 in
set_option maxHeartbeats 2000000 in
theorem requests_any (v : Value) (l : List (Int × Int)) (hl : l.length ≤ 1000000) (hnum : Nums l) (w : World) (h : Row w.heap.size w v l) :
    Calls Tryd.prog 89 #[v] w fun e w' => (∃ v', e = .returned (.tuple #[v', .int .i64 (checkV l)]) ∧ Ints w'.heap.size w' v' (reqsL l)) ∧ Below w.heap.size w w' := by
  have hpr := pairs_any v l hl hnum w h
  have hdl := scan_drops_le l
  obtain ⟨x, N, cap, rfl, hN', h0', hc1, hc2⟩ := h.opened
  rw [hN'.out] at hl hdl
  clear h hnum
  by_cases h16 : 16 < N
  · have hv := Lib.hid (chk_long (l := l) (by rw [hN'.out]; exact h16))
    have hr := Lib.hid (reqs_long (l := l) (by rw [hN'.out]; exact h16))
    clear hpr
    go_enter Tryd.func89, Tryd.ntmps89
    go_wp2
    refine bodyPost_ret (v := .tuple #[.slice none 0 0, .int .i64 _]) (by simp [results, Tryd.results89, go_sem]; exact rfl) rfl ?_
    exact ⟨⟨_, ret_vv hv.out.symm, by rw [hr.out]; exact RowB.nil _ _ _⟩, Below.refl _ _⟩
  · obtain ⟨hs1, hs2⟩ := scan_isR l
    rw [hN'.out] at hs1
    obtain ⟨d, hd⟩ : ∃ d, dropsN (scan [] l) = d := ⟨_, rfl⟩
    rw [hd] at hpr hdl hs1
    have hs1' := Lib.hid hs1
    have hs2' := Lib.hid hs2
    clear hd hs1 hs2
    cases c1 : ((d : Int) * 2 == N)
    · have hb : isR l = false := by
        cases hr : isR l
        · rfl
        · have := hs1'.out.2 hr
          simp at c1; omega
      have hv := Lib.hid (chk_bad (l := l) (by rw [hN'.out]; omega) hb)
      have hr := Lib.hid (reqs_bad (l := l) (by rw [hv.out]; omega))
      have c1' : ((d : Int) * 2 != N) = true := by simpa using c1
      clear hb
      go_enter Tryd.func89, Tryd.ntmps89
      go_wp2_with fail
      refine hpr.mono ?_
      rintro e w1 ⟨⟨v1, rfl, hv1⟩, hb1⟩
      go_wp2
      refine bodyPost_ret (v := .tuple #[.slice none 0 0, .int .i64 _]) (by simp [results, Tryd.results89, go_sem]; exact rfl) rfl ?_
      exact ⟨⟨_, ret_vv hv.out.symm, by rw [hr.out]; exact RowB.nil _ _ _⟩, hb1⟩
    · have hb : isR l = true := hs1'.out.1 (by simp at c1; omega)
      have hv := Lib.hid (chk_good (l := l) (by rw [hN'.out]; omega) hb)
      have hr := Lib.hid (show reqsL l = picksL (scan [] l) from (reqs_good (l := l) hv.out).trans (by rw [hs2'.out hb]))
      have c1' : ((d : Int) * 2 != N) = false := by simpa using c1
      clear hb
      go_enter Tryd.func89, Tryd.ntmps89
      go_wp2_with fail
      refine hpr.mono ?_
      rintro e w1 ⟨⟨v1, rfl, hv1⟩, hb1⟩
      go_wp2
      refine bodyPost_ret (v := .tuple #[_, .int .i64 _]) (by simp [results, Tryd.results89, go_sem]; exact ⟨rfl, rfl⟩) rfl ?_
      exact ⟨⟨_, ret_vv hv.out.symm, by rw [hr.out]; exact hv1⟩, hb1⟩

theorem Check_any (v : Value) (l : List (Int × Int)) (hl : l.length ≤ 1000000) (hnum : Nums l) (w : World) (h : Row w.heap.size w v l) :
    Calls Tryd.prog 61 #[v] w fun e w' => e = .returned (.int .i64 (checkV l)) ∧ Below w.heap.size w w' := by
  have hpr := requests_any v l hl hnum w h
  obtain ⟨x, N, cap, rfl, hN', h0', hc1, hc2⟩ := h.opened
  clear h hnum
  go_enter Tryd.func61, Tryd.ntmps61
  go_wp2_with fail
  refine hpr.mono ?_
  rintro e w1 ⟨⟨v1, rfl, hv1⟩, hb1⟩
  go_wp2
  go_ret
  exact ⟨rfl, hb1⟩

theorem Requests_any (v : Value) (l : List (Int × Int)) (hl : l.length ≤ 1000000) (hnum : Nums l) (w : World) (h : Row w.heap.size w v l) :
    Calls Tryd.prog 82 #[v] w fun e w' => (∃ v', e = .returned v' ∧ Ints w'.heap.size w' v' (reqsL l)) ∧ Below w.heap.size w w' := by
  have hpr := requests_any v l hl hnum w h
  obtain ⟨x, N, cap, rfl, hN', h0', hc1, hc2⟩ := h.opened
  clear h hnum
  go_enter Tryd.func82, Tryd.ntmps82
  go_wp2_with fail
  refine hpr.mono ?_
  rintro e w1 ⟨⟨v1, rfl, hv1⟩, hb1⟩
  go_wp2
  go_ret
  exact ⟨⟨_, rfl, hv1⟩, hb1⟩

end Go.Proofs.YthjdacbgcpldjaaDoor.Route

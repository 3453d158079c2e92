import Derived.Test.YthjdacbgcpldjaaDoorPkRouteLen
import Derived.Test.YthjdacbgcpldjaaDoorPkRouteKept
import Derived.Test.YthjdacbgcpldjaaDoorPkRouteRefWith

/-
  The contract of package route's With.
-/
namespace Go.Proofs.YthjdacbgcpldjaaDoor.Route
open Go.RowKit Go.Sort Go.Proofs.YthjdacbgcpldjaaDoor.Mem
set_option linter.unusedVariables false

theorem slice_len {B : Nat} {W : World} {v : Value} {l : List (Int × Int)} (h : Row B W v l) : ∃ x cap, v = .slice x l.length cap := by
  obtain ⟨x, cap, e, _⟩ := h.slice
  exact ⟨x, cap, e⟩

set_option maxRecDepth 100000 in
set_option maxHeartbeats 2000000 in
theorem With_any (v : Value) (l : List (Int × Int)) (r i j : Int) (hl : l.length ≤ 1000000) (w : World) (h : Row w.heap.size w v l) :
    Calls Tryd.prog 16 #[v, .int .i64 r, .int .i64 i, .int .i64 j] w fun e w' => (∃ v', e = .returned (.tuple #[v', .bool (mayW l r i j)]) ∧ Row w'.heap.size w' v' (withV l r i j) ∧ New w.heap.size v') ∧ Below w.heap.size w w' := by
  have hWo := Without_any v l r hl w h
  obtain ⟨x, N, cap, rfl, hN', h0', hc1, hc2⟩ := h.opened
  have h' := Lib.hid h
  rw [hN'.out] at hl
  clear h
  have hwr : IntKind.i64.wrap ((N : Int) + 2) = (N : Int) + 2 := IntWalk.i64_in _ (by omega)
  have fin : Hid (mayW l r i j = false → ∀ W, Below w.heap.size w W → (∃ v', Ending.returned (.tuple #[.slice none 0 0, .bool false]) = .returned (.tuple #[v', .bool (mayW l r i j)]) ∧ Row W.heap.size W v' (withV l r i j) ∧ New w.heap.size v') ∧ Below w.heap.size w W) :=
    Lib.hid fun hF W hb => ⟨⟨_, ret_vb hF.symm, by rw [with_no hF]; exact RowB.nil _ _ _, New.nil _⟩, hb⟩
  cases c0 : decide ((i : Int) < 0)
  case true =>
    have hF := Lib.hid (may_no (l := l) (r := r) (i := i) (j := j) fun hh => by have := hh.1; simp at c0; omega)
    clear hWo
    go_enter Tryd.func16, Tryd.ntmps16
    go_wp2
    refine bodyPost_ret (v := .tuple #[.slice none 0 0, .bool false]) (by simp [results, Tryd.results16, go_sem]) rfl ?_
    exact fin.out hF.out _ (Below.refl _ _)
  case false =>
  cases c1 : decide (j < i)
  case true =>
    have hF := Lib.hid (may_no (l := l) (r := r) (i := i) (j := j) fun hh => by have := hh.2.1; simp at c1; omega)
    clear hWo
    go_enter Tryd.func16, Tryd.ntmps16
    go_wp2
    refine bodyPost_ret (v := .tuple #[.slice none 0 0, .bool false]) (by simp [results, Tryd.results16, go_sem]) rfl ?_
    exact fin.out hF.out _ (Below.refl _ _)
  case false =>
  cases c2 : decide ((N : Int) < j)
  case true =>
    have hF := Lib.hid (may_no (l := l) (r := r) (i := i) (j := j) fun hh => by have := hh.2.2.1; rw [hN'.out] at this; simp at c2; omega)
    clear hWo
    go_enter Tryd.func16, Tryd.ntmps16
    go_wp2
    refine bodyPost_ret (v := .tuple #[.slice none 0 0, .bool false]) (by simp [results, Tryd.results16, go_sem]) rfl ?_
    exact fin.out hF.out _ (Below.refl _ _)
  case false =>
  cases c3 : decide ((16 : Int) < (N : Int) + 2)
  case true =>
    have hF := Lib.hid (may_no (l := l) (r := r) (i := i) (j := j) fun hh => by have := hh.2.2.2.2.1; rw [hN'.out] at this; simp at c3; omega)
    clear hWo
    go_enter Tryd.func16, Tryd.ntmps16
    go_wp2
    refine bodyPost_ret (v := .tuple #[.slice none 0 0, .bool false]) (by simp [results, Tryd.results16, go_sem]) rfl ?_
    exact fin.out hF.out _ (Below.refl _ _)
  case false =>
  cases c4 : decide (r < 0)
  case true =>
    have hF := Lib.hid (may_no (l := l) (r := r) (i := i) (j := j) fun hh => by have := hh.2.2.2.1; simp at c4; omega)
    clear hWo
    go_enter Tryd.func16, Tryd.ntmps16
    go_wp2
    refine bodyPost_ret (v := .tuple #[.slice none 0 0, .bool false]) (by simp [results, Tryd.results16, go_sem]) rfl ?_
    exact fin.out hF.out _ (Below.refl _ _)
  case false =>
  obtain ⟨I, rfl⟩ : ∃ I : Nat, i = I := ⟨i.toNat, by simp at c0; omega⟩
  obtain ⟨J, rfl⟩ : ∃ J : Nat, j = J := ⟨j.toNat, by simp at c1; omega⟩
  have hIJ : I ≤ J := by simp at c1; omega
  have hJ : J ≤ N := by simp at c2; omega
  have h14 : N + 2 ≤ 16 := by simp at c3; omega
  have hr0 : 0 ≤ r := by simp at c4; omega
  have c1' : decide (J < I) = false := by simp; omega
  have c2' : decide (N < J) = false := by simp; omega
  obtain ⟨M, hM⟩ : ∃ M, (woL r l).length = M := ⟨_, rfl⟩
  have hM' := Lib.hid hM
  clear hM c0 c1 c2
  by_cases hless : M < N
  · have hF := Lib.hid (may_no (l := l) (r := r) (i := I) (j := J) fun hh => by have h1 := wo_less.1 (show (woL r l).length < l.length by rw [hM'.out, hN'.out]; exact hless); rw [hh.2.2.2.2.2] at h1; cases h1)
    go_enter Tryd.func16, Tryd.ntmps16
    go_wp2_with fail
    refine hWo.mono ?_
    rintro e w1 ⟨⟨v1, rfl, hv1⟩, hb1⟩
    obtain ⟨y, cy, rfl⟩ := slice_len hv1
    rw [hM'.out]
    clear hv1 hWo
    go_wp2
    refine bodyPost_ret (v := .tuple #[.slice none 0 0, .bool false]) (by simp [results, Tryd.results16, go_sem]) rfl ?_
    exact fin.out hF.out _ hb1
  · have hT := Lib.hid (mayW_iff (l := l) (r := r) (i := I) (j := J) |>.2 ⟨by omega, by omega, by rw [hN'.out]; omega, hr0, by rw [hN'.out]; omega, by
      cases hn : noR r l
      · have h1 := wo_less.2 hn
        rw [hM'.out, hN'.out] at h1
        exact absurd h1 hless
      · rfl⟩)
    have hput := Lib.hid (put_put (l := l) (i := I) (j := J) hIJ (by rw [hN'.out]; exact hJ) r)
    have hW := Lib.hid (with_yes hT.out)
    go_enter Tryd.func16, Tryd.ntmps16
    go_wp2_with fail
    refine hWo.mono ?_
    rintro e w1 ⟨⟨v1, rfl, hv1⟩, hb1⟩
    obtain ⟨y, cy, rfl⟩ := slice_len hv1
    rw [hM'.out]
    have hsz1 := hb1.size
    have hR1 := Lib.hid ((h'.out.keep hb1 (Nat.le_refl _)).more hsz1)
    clear hv1 hWo
    go_wp2_with fail
    refine (lengthened_any _ l J r 1 (by rw [hN'.out]; exact hl) (by rw [hN'.out]; exact hJ) w1 hR1.out).mono ?_
    rintro e w2 ⟨⟨v2, rfl, hv2, _⟩, hb2⟩
    have hB2 := hb1.trans (hb2.mono hsz1)
    have hv2' := Lib.hid hv2
    clear hv2 hb2 hb1
    go_wp2_with fail
    refine (lengthened_any v2 (putL l J (r, 1)) I r 0 (by rw [putL_length, hN'.out]; omega) (by rw [putL_length, hN'.out]; omega) w2 hv2'.out).mono ?_
    rintro e w3 ⟨⟨v3, rfl, hv3, hnw⟩, hb3⟩
    rw [hput.out] at hv3
    have hB3 := hB2.trans (hb3.mono hB2.size)
    have hv3' := Lib.hid hv3
    have hnw' := Lib.hid (hnw.more hB2.size)
    clear hv3 hb3 hB2 hnw
    go_wp2
    refine bodyPost_ret (v := .tuple #[_, .bool true]) (by simp [results, Tryd.results16, go_sem]; rfl) rfl ?_
    exact ⟨⟨_, ret_vb hT.out.symm, by rw [hW.out]; exact hv3'.out, hnw'.out⟩, hB3⟩

end Go.Proofs.YthjdacbgcpldjaaDoor.Route

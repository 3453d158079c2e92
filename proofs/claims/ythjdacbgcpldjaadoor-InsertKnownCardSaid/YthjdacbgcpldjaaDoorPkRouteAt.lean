import Derived.Test.YthjdacbgcpldjaaDoorPkOrderChk

/-
  The contracts of slices.Index over stops, and of package route's At.
-/
namespace Go.Proofs.YthjdacbgcpldjaaDoor.Route
open Go.RowKit Go.Proofs.YthjdacbgcpldjaaDoor.Mem
set_option linter.unusedVariables false

set_option maxRecDepth 100000 in
set_option maxHeartbeats 1000000 in
theorem Index_any (v : Value) (l : List (Int × Int)) (a b : Int) (hl : l.length ≤ 1000000) (w : World) (h : Row w.heap.size w v l) :
    Calls Tryd.prog 44 #[v, .agg #[.int .i64 a, .int .i64 b]] w fun e w' => e = .returned (.int .i64 (ixV (a, b) l)) ∧ Below w.heap.size w w' := by
  obtain ⟨x, N, cap, rfl, hN', h0', hc1, hc2⟩ := h.opened
  have hb0 : Below w.heap.size w (w.alloc (.cells #[.int .i64 a, .int .i64 b] 66)) := (Below.refl _ _).alloc (Nat.le_refl _) _
  have hA0 : At (w.alloc (.cells #[.int .i64 a, .int .i64 b] 66)) w.heap.size 66 #[.int .i64 a, .int .i64 b] := At.new w _ _
  have h' := Lib.hid h
  rw [hN'.out] at hl
  clear h
  go_enter Tryd.func44, Tryd.ntmps44
  go_wp2
  go_loopw [8] (fun i wr => ∃ k : Nat, k ≤ N ∧ i = .int .i64 k ∧ Hid (ixF (a, b) k (l.drop k) = ixV (a, b) l) ∧ Below w.heap.size w wr ∧ At wr w.heap.size 66 #[.int .i64 a, .int .i64 b])
    (fun i _ => N - (intOf i).toNat)
  case atStart => exact ⟨0, by omega, rfl, Lib.hid rfl, hb0, hA0⟩
  case round =>
    obtain ⟨k, hk, rfl, hix, hbw, hA⟩ := hrel
    clear hb0 hA0
    by_cases hlt : k < N
    · obtain ⟨⟨s1, s2⟩, hs, _⟩ := drop_get (l := l) (k := k) (by rw [hN'.out]; exact hlt)
      obtain ⟨g, o, rfl, hg, e1, e2⟩ := Row.stop h'.out hs
      have e1 := (hbw.cell (p := ⟨g, o + k * 2, none⟩) hg).trans e1
      have e2 := (hbw.cell (p := ⟨g, o + k * 2 + 1, none⟩) hg).trans e2
      have a0 := hA.cell 0
      have a1 := hA.cell 1
      simp at a0 a1 e1 e2
      have hyes := Lib.hid (fun e => (ix_here (s := (a, b)) hs e).trans hix.out)
      have hno := Lib.hid (fun e => (ix_past (s := (a, b)) hs e).trans hix.out)
      clear hs hix
      cases h1 : (a == s1)
      · have hn := Lib.hid (hno.out (by intro e; cases e; simp at h1))
        clear hyes hno
        go_wp2
        go_quiet (fail)
        go_wp2
        go_roundw
        case rel => exact ⟨k + 1, by omega, by go_num, hn, below_drewN hbw nq, hA.drewN nq⟩
        case measure => simp [intOf]; omega
      · cases h2 : (b == s2)
        · have hn := Lib.hid (hno.out (by intro e; cases e; simp at h2))
          clear hyes hno
          go_wp2
          go_quiet (fail)
          go_wp2
          go_roundw
          case rel => exact ⟨k + 1, by omega, by go_num, hn, below_drewN hbw nq, hA.drewN nq⟩
          case measure => simp [intOf]; omega
        · have hn := Lib.hid (hyes.out (by simp at h1 h2; rw [h1, h2]))
          clear hyes hno
          go_wp2
          go_quiet (fail)
          go_wp2
          go_ret
          exact ⟨ret_int hn.out, below_drewN hbw nq⟩
    · obtain rfl : k = N := by omega
      have he := Lib.hid (show (-1 : Int) = ixV (a, b) l by rw [← hix.out, List.drop_eq_nil_of_le (by rw [hN'.out]; omega)]; rfl)
      clear hix
      go_wp2
      go_ret
      exact ⟨ret_int he.out, hbw⟩

set_option maxRecDepth 100000 in
set_option maxHeartbeats 1000000 in
theorem At_any (v : Value) (l : List (Int × Int)) (r : Int) (hl : l.length ≤ 1000000) (w : World) (h : Row w.heap.size w v l) :
    Calls Tryd.prog 22 #[v, .int .i64 r] w fun e w' => e = .returned (.tuple #[.int .i64 (ixV (r, 0) l), .int .i64 (ixV (r, 1) l)]) ∧ Below w.heap.size w w' := by
  have h' := Lib.hid h
  obtain ⟨x, N, cap, rfl, hN', h0', hc1, hc2⟩ := h.opened
  clear h
  go_enter Tryd.func22, Tryd.ntmps22
  go_wp2_with fail
  refine (Index_any _ l r 0 hl w h'.out).mono ?_
  rintro e w1 ⟨rfl, hb1⟩
  go_wp2_with fail
  refine (Index_any _ l r 1 hl w1 (h'.out.on hb1)).mono ?_
  rintro e w2 ⟨rfl, hb2⟩
  go_wp2
  refine bodyPost_ret (v := .tuple #[.int .i64 _, .int .i64 _]) (by simp [results, Tryd.results22, go_sem]; exact ⟨rfl, rfl⟩) rfl ?_
  exact ⟨ret_two rfl rfl, hb1.trans (hb2.mono hb1.size)⟩

end Go.Proofs.YthjdacbgcpldjaaDoor.Route

import Derived.Test.YthjdacbgcpldjaaDoorPkOrderChk

/-
  The contracts of package route's kept, asked by Without's closure, and of Without.
-/
namespace Go.Proofs.YthjdacbgcpldjaaDoor.Route
open Go.RowKit Go.Proofs.YthjdacbgcpldjaaDoor.Mem
set_option linter.unusedVariables false

theorem keep_any (c : Nat) (s1 s2 r : Int) (w : World) (hc : w.cell? ⟨c, 0, none⟩ = some (.int .i64 r)) (hin : c < w.heap.size) :
    Calls Tryd.prog 46 #[.agg #[.int .i64 s1, .int .i64 s2], .pointer (some ⟨c, 0, none⟩)] w fun e w' => e = .returned (.bool (!(s1 == r))) ∧ Below w.heap.size w w' := by
  have hb0 : Below w.heap.size w (w.alloc (.cells #[.int .i64 s1, .int .i64 s2] 66)) := (Below.refl _ _).alloc (Nat.le_refl _) _
  have hc1 := (hb0.cell (p := ⟨c, 0, none⟩) hin).trans hc
  go_enter Tryd.func46, Tryd.ntmps46
  go_wp2
  go_ret
  exact ⟨ret_bool rfl, hb0⟩

theorem kept_in (args : Array Value) (w : World) : (callFunc 46 args).run Tryd.prog w = .ok (.enter 46 args) w := by
  simp [callFunc, Tryd.func46]
  rfl

set_option maxRecDepth 100000 in
set_option maxHeartbeats 1000000 in
theorem kept_any (v : Value) (l : List (Int × Int)) (c : Nat) (r : Int) (hl : l.length ≤ 1000000) (w : World) (h : Row w.heap.size w v l) (hc : w.cell? ⟨c, 0, none⟩ = some (.int .i64 r)) (hin : c < w.heap.size) :
    Calls Tryd.prog 45 #[v, .func (.func 46) #[] #[.pointer (some ⟨c, 0, none⟩)]] w fun e w' => (∃ v', e = .returned v' ∧ Row w'.heap.size w' v' (woL r l)) ∧ Below w.heap.size w w' := by
  obtain ⟨i0, hi, hz0, hz1, hz2⟩ := info_parts info_stop
  obtain ⟨x, N, cap, rfl, hN', h0', hc1, hc2⟩ := h.opened
  have h' := Lib.hid h
  rw [hN'.out] at hl
  clear h
  have hkin := kept_in
  go_enter Tryd.func45, Tryd.ntmps45
  go_wp2
  go_loopw [5, 10] (fun u i wr => ∃ k : Nat, k ≤ N ∧ i = .int .i64 k ∧ wr.ownsRow w.heap.size 66 2 u (woL r (l.take k)).length (flatS (woL r (l.take k))) ∧ Below w.heap.size w wr)
    (fun _ i _ => N - (intOf i).toNat)
  case atStart => exact ⟨0, by omega, rfl, by simpa [woL, flatS] using World.ownsRow_nil _ _ _ _, Below.refl _ _⟩
  case round =>
    obtain ⟨k, hk, rfl, hown, hbw⟩ := hrel
    by_cases hlt : k < N
    · obtain ⟨⟨s1, s2⟩, hs, _⟩ := drop_get (l := l) (k := k) (by rw [hN'.out]; exact hlt)
      obtain ⟨g, o, rfl, hg, e1, e2⟩ := Row.stop h'.out hs
      have e1 := (hbw.cell (p := ⟨g, o + k * 2, none⟩) hg).trans e1
      have e2 := (hbw.cell (p := ⟨g, o + k * 2 + 1, none⟩) hg).trans e2
      have hcr := (hbw.cell (p := ⟨c, 0, none⟩) hin).trans hc
      simp at e1 e2
      have hyes := Lib.hid (wo_succ_yes (r := r) hs)
      have hno := Lib.hid (wo_succ_no (r := r) hs)
      have hln := wo_take_le r l k
      clear hs
      generalize woL r (l.take k) = L at *
      have hS := At.new wr 66 #[.int .i64 s1, .int .i64 s2]
      have hb1 := hbw.alloc hbw.size (.cells #[.int .i64 s1, .int .i64 s2] 66)
      have ho1 := hown.alloc (.cells #[.int .i64 s1, .int .i64 s2] 66)
      have hsz := hbw.size
      go_wp2_with fail
      generalize (wr.alloc (.cells #[.int .i64 s1, .int .i64 s2] 66)) = w1 at *
      generalize wr.heap.size = q at *
      have hsz1 := hb1.size
      refine (keep_any c s1 s2 r w1 ((hb1.cell (p := ⟨c, 0, none⟩) hin).trans hc) (by omega)).mono ?_
      rintro e w2 ⟨rfl, hb2⟩
      have hB2 := hb1.trans (hb2.mono hsz1)
      have ho2 := owns_below ho1 hb2
      have hS2 := hS.keep hb2 hS.inside
      have hsz2 := hB2.size
      have a0 := hS2.cell 0
      have a1 := hS2.cell 1
      simp at a0 a1
      clear hb2 hb1 ho1 hS hown hbw e1 e2 hcr
      cases h1 : (s1 == r)
      · have hy := Lib.hid (hyes.out (by simpa using h1))
        clear hyes hno
        go_wp2_with (at_builtin; refine wpList_append_own _ rfl _ _ 29 rfl w.heap.size 66 i0 (.agg #[.int .i64 0, .int .i64 0]) 2 16 Tryd.underlying29 hi hz0 hz1 hz2 rfl (by decide) _ _ _ rfl (ho2.alloc _) ⟨w2.heap.size, 0, none⟩ 1 1 [.int .i64 s1, .int .i64 s2] rfl rfl (World.news_of_block (cs := #[.int .i64 s1, .int .i64 s2]) (t := 66) (fr := (0, 0)) (heap_alloc_new w2 _)) (by simp [Value.oneCell']) (by unfold maxLen; omega) (by omega) (by simp; omega) ?_; intro v7 w7 hown7 hgrow7 hnil7)
        have hb7 : Below w.heap.size w w7 := (hB2.alloc hB2.size _).grown hgrow7 (by simp; omega) (owns_row ho2)
        go_roundw
        case rel => exact ⟨k + 1, by omega, by go_num, by rw [hy.out, flatS_snoc, List.length_append]; exact hown7, hb7⟩
        case measure => simp [intOf]; omega
      · have hy := Lib.hid (hno.out (by simpa using h1))
        clear hyes hno
        go_wp2
        go_roundw
        case rel => exact ⟨k + 1, by omega, by go_num, by rw [hy.out]; exact ho2, hB2⟩
        case measure => simp [intOf]; omega
    · obtain rfl : k = N := by omega
      have he : l.take k = l := by rw [← hN'.out, List.take_length]
      rw [he] at hown
      clear he
      have hr := Lib.hid (Row.of_owns (B := wr.heap.size) hown rfl (Nat.le_refl _))
      clear hown
      go_wp2
      go_ret
      exact ⟨⟨_, rfl, hr.out⟩, hbw⟩

theorem Without_any (v : Value) (l : List (Int × Int)) (r : Int) (hl : l.length ≤ 1000000) (w : World) (h : Row w.heap.size w v l) :
    Calls Tryd.prog 23 #[v, .int .i64 r] w fun e w' => (∃ v', e = .returned v' ∧ Row w'.heap.size w' v' (woL r l)) ∧ Below w.heap.size w w' := by
  have hb0 : Below w.heap.size w (w.alloc (.cells #[.int .i64 r] 3)) := (Below.refl _ _).alloc (Nat.le_refl _) _
  have hA := At.new w 3 #[.int .i64 r]
  have hr := h.on hb0
  obtain ⟨x, N, cap, rfl, hN', h0', hc1, hc2⟩ := h.opened
  clear h
  go_enter Tryd.func23, Tryd.ntmps23
  go_wp2_with fail
  refine (kept_any _ l w.heap.size r hl _ hr (by simp) hA.inside).mono ?_
  rintro e w1 ⟨⟨v1, rfl, hr1⟩, hb1⟩
  go_wp2
  go_ret
  exact ⟨⟨_, rfl, hr1⟩, hb0.trans (hb1.mono hb0.size)⟩

end Go.Proofs.YthjdacbgcpldjaaDoor.Route

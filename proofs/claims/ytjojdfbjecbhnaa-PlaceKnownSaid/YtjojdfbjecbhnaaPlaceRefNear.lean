/-
  The contracts of the document's Way, at any places, and of its Near.
-/
import Derived.Test.YtjojdfbjecbhnaaPlaceNear
import Derived.Lib.MinMax
namespace Go.Proofs.Ytjojdfbjecbhnaa.Place
open Go.RowKit Go.Proofs.Ytjojdfbjecbhnaa.Mem
set_option linter.unusedVariables false

set_option maxRecDepth 100000 in
set_option maxHeartbeats 1000000 in
theorem refWay_any (ax ay bx by_ : Int) (w : World) :
    Calls Try.prog 15 #[.agg #[.int .i64 ax, .int .i64 ay], .agg #[.int .i64 bx, .int .i64 by_]] w fun e w' =>
      (∃ v, e = .returned v ∧ Rows w'.heap.size w' v (wayL (ax, ay) (bx, by_))) ∧ Below w.heap.size w w' := by
  cases h1 : mayB (ax, ay)
  · have hl := Lib.hid (wayL_no1 (b := (bx, by_)) h1)
    go_enter Try.func15, Try.ntmps15
    go_wp2_with fail
    refine (refMay_any _ _ _).mono ?_
    rintro e w1 ⟨rfl, hb1⟩
    rw [h1]
    have hb0 : Below w.heap.size w ((w.alloc (.cells #[.int .i64 ax, .int .i64 ay] 23)).alloc (.cells #[.int .i64 bx, .int .i64 by_] 23)) := ((Below.refl _ _).alloc (Nat.le_refl _) _).alloc (by simp) _
    have hB := hb0.trans (hb1.mono hb0.size)
    clear hb0 hb1
    go_wp2
    go_ret
    exact ⟨⟨_, rfl, .inl ⟨_, _, rfl, hl.out⟩⟩, hB⟩
  · cases h2 : mayB (bx, by_)
    · have hl := Lib.hid (wayL_no2 (a := (ax, ay)) h2)
      have hb0 : Below w.heap.size w ((w.alloc (.cells #[.int .i64 ax, .int .i64 ay] 23)).alloc (.cells #[.int .i64 bx, .int .i64 by_] 23)) := ((Below.refl _ _).alloc (Nat.le_refl _) _).alloc (by simp) _
      go_enter Try.func15, Try.ntmps15
      go_wp2_with fail
      refine (refMay_any _ _ _).mono ?_
      rintro e w1 ⟨rfl, hb1⟩
      rw [h1]
      have c3 := (hb1.cell (p := ⟨w.heap.size + 1, 0, none⟩) (by simp)).trans (show _ = some (.int .i64 bx) by go_simp)
      have c4 := (hb1.cell (p := ⟨w.heap.size + 1, 1, none⟩) (by simp)).trans (show _ = some (.int .i64 by_) by go_simp)
      have hB := hb0.trans (hb1.mono hb0.size)
      clear hb0 hb1
      go_wp2_with fail
      refine (refMay_any _ _ _).mono ?_
      rintro e w2 ⟨rfl, hb2⟩
      rw [h2]
      have hB2 := hB.trans (hb2.mono hB.size)
      clear hb2 hB
      go_wp2
      go_ret
      exact ⟨⟨_, rfl, .inl ⟨_, _, rfl, hl.out⟩⟩, hB2⟩
    · rw [wayL_yes h1 h2]
      exact refWay_yes (ax, ay) (bx, by_) h1 h2 w


theorem owns_below {W W' : World} {base : Nat} {e : TypeId} {size n : Nat} {v : Value} {xs : List Value} (h : W.ownsRow base e size v n xs) (hb : Below W.heap.size W W') : W'.ownsRow base e size v n xs := by
  obtain ⟨hl, h1 | ⟨g, cap, cur, rfl, hg1, hg, hr⟩⟩ := h
  · exact ⟨hl, .inl h1⟩
  · exact ⟨hl, .inr ⟨g, cap, cur, rfl, hg1, (hb.block g (Array.getElem?_eq_some_iff.1 hg).1).trans hg, hr⟩⟩

set_option maxRecDepth 100000 in
set_option maxHeartbeats 8000000 in
theorem refNear_yes (px py far : Int) (hm : mayB (px, py) = true) (h0 : 0 ≤ far) (h16 : far ≤ 16) (w : World) :
    Calls Try.prog 18 #[.agg #[.int .i64 px, .int .i64 py], .int .i64 far] w fun e w' =>
      (∃ v, e = .returned v ∧ Rows w'.heap.size w' v (refN (px, py) far (sideC far))) ∧ Below w.heap.size w w' := by
  obtain ⟨i0, hi, hz0, hz1, hz2⟩ := info_parts info_place
  have hpm := (mayB_iff _).1 hm
  simp only at hpm
  obtain ⟨⟨hpx1, hpx2⟩, hpy1, hpy2⟩ := hpm
  obtain ⟨S, hS⟩ : ∃ S, sideC far = S := ⟨_, rfl⟩
  have hS1 : (S : Int) = 2 * far + 1 := by rw [← hS]; unfold sideC; omega
  have hSr := Lib.hid hS
  rw [hS]
  have hm' := Lib.hid hm
  have hb0 : Below w.heap.size w (w.alloc (.cells #[.int .i64 px, .int .i64 py] 23)) := (Below.refl _ _).alloc (Nat.le_refl _) _
  have hA0 : At (w.alloc (.cells #[.int .i64 px, .int .i64 py] 23)) w.heap.size 23 #[.int .i64 px, .int .i64 py] := At.new w _ _
  clear hS
  go_enter Try.func18, Try.ntmps18
  go_wp2_with fail
  generalize (w.alloc (.cells #[.int .i64 px, .int .i64 py] 23)) = w1 at *
  refine (refMay_any _ _ _).mono ?_
  rintro e w2 ⟨rfl, hb2⟩
  rw [hm]
  have hA2 := hA0.keep hb2 hA0.inside
  have hB2 := hb0.trans (hb2.mono hb0.size)
  have a0 := hA2.cell 0
  have a1 := hA2.cell 1
  simp at a0 a1
  have hlw : w.heap.size < w2.heap.size := hA2.inside
  clear hb2 hA0 hb0 w1 hm
  go_wp2
  go_loopw [5, 6] (fun l x wr => ∃ k : Nat, k ≤ S ∧ x = .int .i64 (px - far + k) ∧ wr.ownsRow w2.heap.size 23 2 l (refN (px, py) far k).length (flat (refN (px, py) far k)) ∧ Below w2.heap.size w2 wr)
    (fun _ x _ => (px + far + 1 - intOf x).toNat)
  case atStart => exact ⟨0, Nat.zero_le _, by simp, World.ownsRow_nil _ _ _ _, Below.refl _ _⟩
  case round =>
    obtain ⟨k, hk, rfl, hown, hbw⟩ := hrel
    have c0 := (hbw.cell (p := ⟨w.heap.size, 0, none⟩) hlw).trans a0
    have c1 := (hbw.cell (p := ⟨w.heap.size, 1, none⟩) hlw).trans a1
    by_cases hlt : k < S
    · have hle : px - far + k ≤ px + far := by omega
      have hns := Lib.hid (refN_succ (px, py) far k)
      have hlen := refN_length (p := (px, py)) h16 k
      go_wp2
      go_loopw [5, 7] (fun l y wr => ∃ m : Nat, m ≤ S ∧ y = .int .i64 (py - far + m) ∧ wr.ownsRow w2.heap.size 23 2 l (refN (px, py) far k ++ refCol (px, py) far (px - far + k) m).length (flat (refN (px, py) far k ++ refCol (px, py) far (px - far + k) m)) ∧ Below w2.heap.size w2 wr)
        (fun _ y _ => (py + far + 1 - intOf y).toNat)
      case atStart => exact ⟨0, Nat.zero_le _, by simp, by simpa [refCol, span_0] using hown, hbw⟩
      case round =>
        clear hown hbw c0 c1
        obtain ⟨m, hm, rfl, hown1, hbw1⟩ := hrel
        have d0 := (hbw1.cell (p := ⟨w.heap.size, 0, none⟩) hlw).trans a0
        have d1 := (hbw1.cell (p := ⟨w.heap.size, 1, none⟩) hlw).trans a1
        have hlen1 : (refN (px, py) far k ++ refCol (px, py) far (px - far + k) m).length ≤ 33 * k + m := by
          have := refCol_length (px, py) far (px - far + k) m
          rw [List.length_append]; omega
        by_cases hlt2 : m < S
        · have hle2 : py - far + m ≤ py + far := by omega
          have hQ : At (wr.alloc (.cells #[.int .i64 (px - far + k), .int .i64 (py - far + m)] 23)) wr.heap.size 23 #[.int .i64 (px - far + k), .int .i64 (py - far + m)] := At.new wr _ _
          have hbQ := hbw1.alloc hbw1.size (.cells #[.int .i64 (px - far + k), .int .i64 (py - far + m)] 23)
          have hoQ := hown1.alloc (.cells #[.int .i64 (px - far + k), .int .i64 (py - far + m)] 23)
          go_wp2_with fail
          generalize wr.alloc (.cells #[.int .i64 (px - far + k), .int .i64 (py - far + m)] 23) = wq at *
          refine (refMay_any _ _ _).mono ?_
          rintro e w3 ⟨rfl, hb3⟩
          have hQ3 := hQ.keep hb3 hQ.inside
          have q30 := hQ3.cell 0
          have q31 := hQ3.cell 1
          simp at q30 q31
          have hb23 := hbQ.trans (hb3.mono hbQ.size)
          have g0 := (hb23.cell (p := ⟨w.heap.size, 0, none⟩) hlw).trans a0
          have g1 := (hb23.cell (p := ⟨w.heap.size, 1, none⟩) hlw).trans a1
          have ho3 := owns_below hoQ hb3
          clear hb3 hbQ hQ hoQ
          cases hmq : mayB (px - far + k, py - far + m)
          · have hno := Lib.hid (refCol_no (p := (px, py)) (far := far) (x := px - far + k) (m := m) (show good (px, py) far (px - far + k, (px, py).2 - far + m) = false by simp [good, hmq]))
            have hb3' := hb23
            clear hmq
            go_wp2
            go_roundw
            case rel => exact ⟨m + 1, by omega, by go_num, by rw [hno.out]; exact ho3, hb3'⟩
            case measure => simp [intOf]; omega
          · go_wp2_with fail
            refine (refDist_any _ _ _ _ _).mono ?_
            rintro e w4 ⟨rfl, hb4⟩
            have hQ4 := hQ3.keep hb4 hQ3.inside
            have q40 := hQ4.cell 0
            have q41 := hQ4.cell 1
            simp at q40 q41
            have hb24 := hb23.trans (hb4.mono hb23.size)
            have ho4 := owns_below ho3 hb4
            clear hb4 ho3 hb23 g0 g1 hQ3 q30 q31
            by_cases hd : distV (px, py) (px - far + k, py - far + m) ≤ far
            · have hyes := Lib.hid (refCol_yes (p := (px, py)) (far := far) (x := px - far + k) (m := m) (show good (px, py) far (px - far + k, (px, py).2 - far + m) = true by simp only [good, Bool.and_eq_true, decide_eq_true_eq]; exact ⟨hmq, hd⟩))
              clear hmq
              go_wp2_with (at_builtin; refine wpList_append_own _ rfl _ _ 30 rfl w2.heap.size 23 i0 (.agg #[.int .i64 0, .int .i64 0]) 2 16 Try.underlying30 hi hz0 hz1 hz2 rfl (by decide) _ _ _ rfl (ho4.alloc _) ⟨w4.heap.size, 0, none⟩ 1 1 [.int .i64 (px - far + k), .int .i64 (py - far + m)] rfl rfl (World.news_of_block (cs := #[.int .i64 (px - far + k), .int .i64 (py - far + m)]) (t := 23) (fr := (0, 0)) (heap_alloc_new w4 _)) (by simp [Value.oneCell']) (by unfold maxLen; omega) (by omega) (by have := hb24.size; simp; omega) ?_; intro v7 w7 hown7 hgrow7 hnil7)
              have hb7 : Below w2.heap.size w2 w7 := (hb24.alloc hb24.size _).grown hgrow7 (by have := hb24.size; simp; omega) (owns_row ho4)
              go_roundw
              case rel =>
                refine ⟨m + 1, by omega, by go_num, ?_, hb7⟩
                rw [hyes.out, ← List.append_assoc, flat_snoc, List.length_append]
                exact hown7
              case measure => simp [intOf]; omega
            · have hno := Lib.hid (refCol_no (p := (px, py)) (far := far) (x := px - far + k) (m := m) (show good (px, py) far (px - far + k, (px, py).2 - far + m) = false by simp only [good, Bool.and_eq_false_iff, decide_eq_false_iff_not]; exact .inr hd))
              clear hmq
              go_wp2
              go_roundw
              case rel => exact ⟨m + 1, by omega, by go_num, by rw [hno.out]; exact ho4, hb24⟩
              case measure => simp [intOf]; omega
        · have hle2 : py + far < py - far + m := by omega
          obtain rfl : m = S := by omega
          go_wp2
          go_roundw
          case rel => exact ⟨k + 1, by omega, by go_num, by rw [hns.out, hSr.out]; exact hown1, hbw1⟩
          case measure => simp [intOf]; omega
    · have hle : px + far < px - far + k := by omega
      obtain rfl : k = S := by omega
      have hr := rows_of_owns hown
      have hB := hB2.trans (hbw.mono (Nat.le_of_lt hlw))
      go_wp2
      go_ret
      exact ⟨⟨_, rfl, hr⟩, hB⟩

set_option maxRecDepth 100000 in
set_option maxHeartbeats 1000000 in
theorem refNear_any (px py far : Int) (w : World) :
    Calls Try.prog 18 #[.agg #[.int .i64 px, .int .i64 py], .int .i64 far] w fun e w' =>
      (∃ v, e = .returned v ∧ Rows w'.heap.size w' v (nearL (px, py) far)) ∧ Below w.heap.size w w' := by
  have hb0 : Below w.heap.size w (w.alloc (.cells #[.int .i64 px, .int .i64 py] 23)) := (Below.refl _ _).alloc (Nat.le_refl _) _
  cases h1 : mayB (px, py)
  · have hl := Lib.hid (nearL_no1 (far := far) h1)
    go_enter Try.func18, Try.ntmps18
    go_wp2_with fail
    refine (refMay_any _ _ _).mono ?_
    rintro e w1 ⟨rfl, hb1⟩
    rw [h1]
    have hB := hb0.trans (hb1.mono hb0.size)
    clear hb0 hb1
    go_wp2
    go_ret
    exact ⟨⟨_, rfl, .inl ⟨_, _, rfl, hl.out⟩⟩, hB⟩
  · by_cases h2 : far < 0
    · have hl := Lib.hid (nearL_no2 (p := (px, py)) h2)
      go_enter Try.func18, Try.ntmps18
      go_wp2_with fail
      refine (refMay_any _ _ _).mono ?_
      rintro e w1 ⟨rfl, hb1⟩
      rw [h1]
      have hB := hb0.trans (hb1.mono hb0.size)
      clear hb0 hb1
      go_wp2
      go_ret
      exact ⟨⟨_, rfl, .inl ⟨_, _, rfl, hl.out⟩⟩, hB⟩
    · by_cases h3 : 16 < far
      · have hl := Lib.hid (nearL_no3 (p := (px, py)) h3)
        go_enter Try.func18, Try.ntmps18
        go_wp2_with fail
        refine (refMay_any _ _ _).mono ?_
        rintro e w1 ⟨rfl, hb1⟩
        rw [h1]
        have hB := hb0.trans (hb1.mono hb0.size)
        clear hb0 hb1
        go_wp2
        go_ret
        exact ⟨⟨_, rfl, .inl ⟨_, _, rfl, hl.out⟩⟩, hB⟩
      · rw [nearL_yes h1 (by omega) (by omega)]
        rw [← near_eq' h1 (by omega)]
        exact refNear_yes px py far h1 (by omega) (by omega) w

end Go.Proofs.Ytjojdfbjecbhnaa.Place

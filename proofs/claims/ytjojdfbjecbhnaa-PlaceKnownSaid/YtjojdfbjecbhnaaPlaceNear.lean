/-
  The contract of package place's Near: two loops that gather what is near one.
-/
import Derived.Test.YtjojdfbjecbhnaaPlaceRefWay
import Derived.Test.YtjojdfbjecbhnaaPlaceNearMath
import Derived.Lib.MinMax
namespace Go.Proofs.Ytjojdfbjecbhnaa.Place
open Go.RowKit Go.Proofs.Ytjojdfbjecbhnaa.Mem
set_option linter.unusedVariables false

theorem nearL_no1 {p : Int × Int} {far : Int} (h : mayB p = false) : nearL p far = [] := by simp [nearL, h]
theorem nearL_no2 {p : Int × Int} {far : Int} (h : far < 0) : nearL p far = [] := by simp [nearL]; omega
theorem nearL_no3 {p : Int × Int} {far : Int} (h : 16 < far) : nearL p far = [] := by simp [nearL]; omega
theorem nearL_yes {p : Int × Int} {far : Int} (h : mayB p = true) (h0 : 0 ≤ far) (h1 : far ≤ 16) : nearL p far = nearN p far (rowsC p far) := by simp [nearL, h, h0, h1]

set_option maxRecDepth 100000 in
set_option maxHeartbeats 4000000 in
theorem Near_yes (px py far : Int) (hm : mayB (px, py) = true) (h0 : 0 ≤ far) (h16 : far ≤ 16) (w : World) :
    Calls Try.prog 17 #[.agg #[.int .i64 px, .int .i64 py], .int .i64 far] w fun e w' =>
      (∃ v, e = .returned v ∧ Rows w'.heap.size w' v (nearN (px, py) far (rowsC (px, py) far))) ∧ Below w.heap.size w w' := by
  obtain ⟨i0, hi, hz0, hz1, hz2⟩ := info_parts info_place
  have hpm := (mayB_iff _).1 hm
  simp only at hpm
  obtain ⟨⟨hpx1, hpx2⟩, hpy1, hpy2⟩ := hpm
  obtain ⟨X0, hX0⟩ : ∃ X0, max (px - far) 0 = X0 := ⟨_, rfl⟩
  obtain ⟨X1, hX1⟩ : ∃ X1, min (px + far) 1023 = X1 := ⟨_, rfl⟩
  obtain ⟨C, hC⟩ : ∃ C, rowsC (px, py) far = C := ⟨_, rfl⟩
  have hC' : (X1 - X0 + 1).toNat = C := by rw [← hC, ← hX0, ← hX1]; rfl
  have hCb : C ≤ 33 := by omega
  have hX0' := Lib.hid (show x0 (px, py) far = X0 from hX0)
  have hx0 : 0 ≤ X0 ∧ X0 ≤ px := by omega
  have hx1 : px ≤ X1 ∧ X1 < 1024 := by omega
  rw [hC]
  have hCr := Lib.hid hC
  clear hC
  have hb0 : Below w.heap.size w (w.alloc (.cells #[.int .i64 px, .int .i64 py] 23)) := (Below.refl _ _).alloc (Nat.le_refl _) _
  have hA0 : At (w.alloc (.cells #[.int .i64 px, .int .i64 py] 23)) w.heap.size 23 #[.int .i64 px, .int .i64 py] := At.new w _ _
  go_enter Try.func17, Try.ntmps17
  go_wp2_with fail
  generalize (w.alloc (.cells #[.int .i64 px, .int .i64 py] 23)) = w1 at *
  refine (May_any _ _ _).mono ?_
  rintro e w2 ⟨rfl, hb2⟩
  rw [hm]
  have hA2 := hA0.keep hb2 hA0.inside
  have hB2 := hb0.trans (hb2.mono hb0.size)
  have a0 := hA2.cell 0
  have a1 := hA2.cell 1
  simp at a0 a1
  have hlw : w.heap.size < w2.heap.size := hA2.inside
  clear hb2 hA0 hb0 w1 hm
  go_wp2
  go_loopw [5, 6] (fun l x wr => ∃ k : Nat, k ≤ C ∧ x = .int .i64 (X0 + k) ∧ wr.ownsRow w2.heap.size 23 2 l (nearN (px, py) far k).length (flat (nearN (px, py) far k)) ∧ Below w2.heap.size w2 wr)
    (fun _ x _ => (X1 + 1 - intOf x).toNat)
  case atStart => exact ⟨0, Nat.zero_le _, by simp, World.ownsRow_nil _ _ _ _, Below.refl _ _⟩
  case round =>
    obtain ⟨k, hk, rfl, hown, hbw⟩ := hrel
    have c0 := (hbw.cell (p := ⟨w.heap.size, 0, none⟩) hlw).trans a0
    have c1 := (hbw.cell (p := ⟨w.heap.size, 1, none⟩) hlw).trans a1
    by_cases hlt : k < C
    · have hle : X0 + k ≤ X1 := by omega
      have hxs : 0 ≤ X0 + k ∧ X0 + k < 1024 := by omega
      have hgx : gap (X0 + k) px ≤ far ∧ 0 ≤ gap (X0 + k) px := by unfold gap; split <;> omega
      obtain ⟨L, hL⟩ : ∃ L, far - gap (X0 + k) px = L := ⟨_, rfl⟩
      obtain ⟨Y0, hY0⟩ : ∃ Y0, max (py - L) 0 = Y0 := ⟨_, rfl⟩
      obtain ⟨Y1, hY1⟩ : ∃ Y1, min (py + L) 1023 = Y1 := ⟨_, rfl⟩
      obtain ⟨D, hD⟩ : ∃ D, colC (px, py) far (X0 + k) = D := ⟨_, rfl⟩
      have hL0 : 0 ≤ L ∧ L ≤ 16 := by omega
      have hD' : (Y1 - Y0 + 1).toNat = D := by rw [← hD, ← hY0, ← hY1, ← hL]; rfl
      have hDb : D ≤ 33 := by omega
      have hy0 : 0 ≤ Y0 ∧ Y0 ≤ py := by omega
      have hy1 : py ≤ Y1 ∧ Y1 < 1024 := by omega
      have hY0' := Lib.hid (show y0 (px, py) far (X0 + k) = Y0 by rw [← hY0, ← hL]; rfl)
      have hns := Lib.hid (nearN_succ (px, py) far k)
      rw [hX0'.out, hD] at hns
      have hlen := nearN_length (p := (px, py)) h16 k
      have hDr := Lib.hid hD
      clear hD
      go_wp2_with fail
      refine (apart_any _ _ (by omega) (by omega) _).mono ?_
      rintro e w3 ⟨rfl, rfl⟩
      go_wp2
      go_loopw [5, 8] (fun l y wr => ∃ m : Nat, m ≤ D ∧ y = .int .i64 (Y0 + m) ∧ wr.ownsRow w2.heap.size 23 2 l (nearN (px, py) far k ++ colN (px, py) far (X0 + k) m).length (flat (nearN (px, py) far k ++ colN (px, py) far (X0 + k) m)) ∧ Below w2.heap.size w2 wr)
        (fun _ y _ => (Y1 + 1 - intOf y).toNat)
      case atStart => exact ⟨0, Nat.zero_le _, by simp, by simpa [colN, span_0] using hown, hbw⟩
      case round =>
        obtain ⟨m, hm, rfl, hown1, hbw1⟩ := hrel
        have d0 := (hbw1.cell (p := ⟨w.heap.size, 0, none⟩) hlw).trans a0
        have d1 := (hbw1.cell (p := ⟨w.heap.size, 1, none⟩) hlw).trans a1
        have hlen1 : (nearN (px, py) far k ++ colN (px, py) far (X0 + k) m).length ≤ 33 * k + m := by rw [List.length_append, colN_length]; omega
        by_cases hlt2 : m < D
        · have hle2 : Y0 + m ≤ Y1 := by omega
          have hcs := Lib.hid (colN_succ (px, py) far (X0 + k) m)
          rw [hY0'.out] at hcs
          clear hown hbw c0 c1
          go_wp2_with (at_builtin; refine wpList_append_own _ rfl _ _ 30 rfl w2.heap.size 23 i0 (.agg #[.int .i64 0, .int .i64 0]) 2 16 Try.underlying30 hi hz0 hz1 hz2 rfl (by decide) _ _ _ rfl (hown1.alloc _) ⟨wr.heap.size, 0, none⟩ 1 1 [.int .i64 (X0 + k), .int .i64 (Y0 + m)] rfl rfl (World.news_of_block (cs := #[.int .i64 (X0 + k), .int .i64 (Y0 + m)]) (t := 23) (fr := (0, 0)) (heap_alloc_new wr _)) (by simp [Value.oneCell']) (by unfold maxLen; omega) (by omega) (by have := hbw1.size; simp; omega) ?_; intro v7 w7 hown7 hgrow7 hnil7)
          have hb7 : Below w2.heap.size w2 w7 := (hbw1.alloc hbw1.size _).grown hgrow7 (by have := hbw1.size; simp; omega) (owns_row hown1)
          go_roundw
          case rel =>
            refine ⟨m + 1, by omega, by go_num, ?_, hb7⟩
            rw [hcs.out, ← List.append_assoc, flat_snoc, List.length_append]
            exact hown7
          case measure => simp [intOf]; omega
        · have hle2 : Y1 < Y0 + m := by omega
          obtain rfl : m = D := by omega
          clear hown hbw c0 c1
          go_wp2
          go_roundw
          case rel => exact ⟨k + 1, by omega, by go_num, by rw [hns.out]; exact hown1, hbw1⟩
          case measure => simp [intOf]; omega
    · have hle : X1 < X0 + k := by omega
      obtain rfl : k = C := by omega
      have hr := rows_of_owns hown
      have hB := hB2.trans (hbw.mono (Nat.le_of_lt hlw))
      go_wp2
      go_ret
      exact ⟨⟨_, rfl, hr⟩, hB⟩

set_option maxRecDepth 100000 in
set_option maxHeartbeats 1000000 in
theorem Near_any (px py far : Int) (w : World) :
    Calls Try.prog 17 #[.agg #[.int .i64 px, .int .i64 py], .int .i64 far] w fun e w' =>
      (∃ v, e = .returned v ∧ Rows w'.heap.size w' v (nearL (px, py) far)) ∧ Below w.heap.size w w' := by
  have hb0 : Below w.heap.size w (w.alloc (.cells #[.int .i64 px, .int .i64 py] 23)) := (Below.refl _ _).alloc (Nat.le_refl _) _
  cases h1 : mayB (px, py)
  · have hl := Lib.hid (nearL_no1 (far := far) h1)
    go_enter Try.func17, Try.ntmps17
    go_wp2_with fail
    refine (May_any _ _ _).mono ?_
    rintro e w1 ⟨rfl, hb1⟩
    rw [h1]
    have hB := hb0.trans (hb1.mono hb0.size)
    clear hb0 hb1
    go_wp2
    go_ret
    exact ⟨⟨_, rfl, .inl ⟨_, _, rfl, hl.out⟩⟩, hB⟩
  · by_cases h2 : far < 0
    · have hl := Lib.hid (nearL_no2 (p := (px, py)) h2)
      go_enter Try.func17, Try.ntmps17
      go_wp2_with fail
      refine (May_any _ _ _).mono ?_
      rintro e w1 ⟨rfl, hb1⟩
      rw [h1]
      have hB := hb0.trans (hb1.mono hb0.size)
      clear hb0 hb1
      go_wp2
      go_ret
      exact ⟨⟨_, rfl, .inl ⟨_, _, rfl, hl.out⟩⟩, hB⟩
    · by_cases h3 : 16 < far
      · have hl := Lib.hid (nearL_no3 (p := (px, py)) h3)
        go_enter Try.func17, Try.ntmps17
        go_wp2_with fail
        refine (May_any _ _ _).mono ?_
        rintro e w1 ⟨rfl, hb1⟩
        rw [h1]
        have hB := hb0.trans (hb1.mono hb0.size)
        clear hb0 hb1
        go_wp2
        go_ret
        exact ⟨⟨_, rfl, .inl ⟨_, _, rfl, hl.out⟩⟩, hB⟩
      · rw [nearL_yes h1 (by omega) (by omega)]
        exact Near_yes px py far h1 (by omega) (by omega) w

end Go.Proofs.Ytjojdfbjecbhnaa.Place

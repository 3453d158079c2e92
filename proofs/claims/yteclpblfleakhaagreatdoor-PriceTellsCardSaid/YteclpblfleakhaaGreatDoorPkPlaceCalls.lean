import Derived.Test.YteclpblfleakhaaGreatDoorPkPlaceMath
import Derived.WalkLawsBesides
import Derived.WalkSpells
import Derived.ProofKit
import Derived.Test.YteclpblfleakhaaGreatDoorRows
import Derived.BigQuiet
import Derived.Lib.QuietBelow
import Derived.Lib.Hide
import Derived.StillTailTactics

namespace Go.Proofs.YteclpblfleakhaaGreatDoor.Place
open Go.RowKit
set_option linter.unusedVariables false
theorem ret_int {k : IntKind} {a b : Int} (h : a = b) : Ending.returned (.int k a) = .returned (.int k b) := by rw [h]
theorem ret_bool {a b : Bool} (h : a = b) : Ending.returned (.bool a) = .returned (.bool b) := by rw [h]
theorem below_drewN {B : Nat} {a w : World} (h : Below B a w) (n : Nat) : Below B a (w.drewN n) := ⟨h.os, h.tape, h.output, h.size, h.block⟩
theorem side_of {n : Int} (h : 0 ≤ n) : decide (n < 1024) = sideB n := by simp [sideB, h]
theorem side_no {n : Int} (h : n < 0) : false = sideB n := ((sideB_no n).2 (.inl h)).symm
theorem may_no1 {x y : Int} (h : sideB x = false) : mayB (x, y) = false := by simp [mayB, h]
theorem may_yes1 {x y : Int} (h : sideB x = true) : mayB (x, y) = sideB y := by simp [mayB, h]
theorem gap_lt {a b : Int} (h : a < b) : gap a b = b - a := by simp [gap, h]
theorem gap_ge {a b : Int} (h : ¬ a < b) : gap a b = a - b := by simp [gap, h]
theorem gap_side {a b : Int} (ha : 0 ≤ a ∧ a < 1024) (hb : 0 ≤ b ∧ b < 1024) : 0 ≤ gap a b ∧ gap a b < 1024 := by unfold gap; split <;> omega
theorem onSide_any (n : Int) (w : World) :
 Calls Tryz.prog 73 #[.int .i64 n] w fun e w' => e = .returned (.bool (sideB n)) ∧ w = w' := by
 by_cases h1 : 0 ≤ n
 · go_enter Tryz.func73, Tryz.ntmps73
   go_wp2
   go_ret
   exact ⟨ret_bool (side_of (by omega)), rfl⟩
 · go_enter Tryz.func73, Tryz.ntmps73
   go_wp2
   go_ret
   exact ⟨ret_bool (side_no (by omega)), rfl⟩
theorem May_any (x y : Int) (w : World) :
 Calls Tryz.prog 50 #[.agg #[.int .i64 x, .int .i64 y]] w fun e w' => e = .returned (.bool (mayB (x, y))) ∧ Below w.heap.size w w' := by
 cases h1 : sideB x
 · have hm := Lib.hid (may_no1 (y := y) h1)
   go_enter Tryz.func50, Tryz.ntmps50
   go_wp2_with (go_at_call 73; refine (onSide_any _ _).mono ?_; rintro e w' ⟨rfl, rfl⟩; rw [h1])
   go_ret
   exact ⟨ret_bool hm.out.symm, (Below.refl _ _).alloc (Nat.le_refl _) _⟩
 · have hm := Lib.hid (may_yes1 (y := y) h1)
   go_enter Tryz.func50, Tryz.ntmps50
   go_wp2_with fail
   refine (onSide_any _ _).mono ?_
   rintro e w' ⟨rfl, rfl⟩
   rw [h1]
   go_wp2_with fail
   refine (onSide_any _ _).mono ?_
   rintro e w' ⟨rfl, rfl⟩
   go_wp2
   go_ret
   exact ⟨ret_bool hm.out.symm, (Below.refl _ _).alloc (Nat.le_refl _) _⟩
theorem refMay_any (x y : Int) (w : World) :
 Calls Tryz.prog 84 #[.agg #[.int .i64 x, .int .i64 y]] w fun e w' => e = .returned (.bool (mayB (x, y))) ∧ Below w.heap.size w w' := by
 by_cases h1 : 0 ≤ x
 · by_cases h2 : x < 1024
   · by_cases h3 : 0 ≤ y
     · have hm := Lib.hid ((may_yes1 (y := y) ((sideB_iff x).2 ⟨h1, h2⟩)).trans (side_of h3).symm)
       go_enter Tryz.func84, Tryz.ntmps84
       go_wp2
       go_ret
       exact ⟨ret_bool hm.out.symm, (Below.refl _ _).alloc (Nat.le_refl _) _⟩
     · have hm := Lib.hid ((may_yes1 (y := y) ((sideB_iff x).2 ⟨h1, h2⟩)).trans (side_no (by omega)).symm)
       go_enter Tryz.func84, Tryz.ntmps84
       go_wp2
       go_ret
       exact ⟨ret_bool hm.out.symm, (Below.refl _ _).alloc (Nat.le_refl _) _⟩
   · have hm := Lib.hid (may_no1 (y := y) ((sideB_no x).2 (by omega)))
     go_enter Tryz.func84, Tryz.ntmps84
     go_wp2
     go_ret
     exact ⟨ret_bool hm.out.symm, (Below.refl _ _).alloc (Nat.le_refl _) _⟩
 · have hm := Lib.hid (may_no1 (y := y) ((sideB_no x).2 (by omega)))
   go_enter Tryz.func84, Tryz.ntmps84
   go_wp2
   go_ret
   exact ⟨ret_bool hm.out.symm, (Below.refl _ _).alloc (Nat.le_refl _) _⟩
theorem apart_any (a b : Int) (ha : 0 ≤ a ∧ a < 1024) (hb : 0 ≤ b ∧ b < 1024) (w : World) :
 Calls Tryz.prog 110 #[.int .i64 a, .int .i64 b] w fun e w' => e = .returned (.int .i64 (gap a b)) ∧ w' = w := by
 obtain ⟨ha1, ha2⟩ := ha
 obtain ⟨hb1, hb2⟩ := hb
 by_cases h1 : a < b
 · have hg := Lib.hid (gap_lt h1)
   go_enter Tryz.func110, Tryz.ntmps110
   go_wp2
   go_ret
   exact ⟨ret_int hg.out.symm, rfl⟩
 · have hg := Lib.hid (gap_ge h1)
   go_enter Tryz.func110, Tryz.ntmps110
   go_wp2
   go_ret
   exact ⟨ret_int hg.out.symm, rfl⟩
theorem refApart_any (a b : Int) (ha : 0 ≤ a ∧ a < 1024) (hb : 0 ≤ b ∧ b < 1024) (w : World) :
 Calls Tryz.prog 85 #[.int .i64 a, .int .i64 b] w fun e w' => e = .returned (.int .i64 (gap a b)) ∧ w' = w := by
 obtain ⟨ha1, ha2⟩ := ha
 obtain ⟨hb1, hb2⟩ := hb
 go_enter Tryz.func85, Tryz.ntmps85
 by_cases h1 : a < b
 · have hg := Lib.hid (gap_lt h1)
   go_wp2
   go_loop [5, 6] (fun n i => ∃ k : Nat, (k : Int) ≤ b - a ∧ n = .int .i64 k ∧ i = .int .i64 (a + k)) (fun _ i => (b - intOf i).toNat)
   case atStart => exact ⟨0, by omega, rfl, by simp⟩
   case round =>
    obtain ⟨k, hk, rfl, rfl⟩ := hrel
    by_cases hlt : a + k < b
    · go_wp2
      go_round
      case rel => exact ⟨k + 1, by omega, by go_num, by go_num⟩
      case measure => simp [intOf]; omega
    · obtain rfl : b = a + k := by omega
      go_wp2
      go_ret
      exact ⟨ret_int (by rw [hg.out]; omega), rfl⟩
 by_cases h2 : a = b
 · obtain rfl := h2
   have hg := Lib.hid (show gap a a = 0 by rw [gap_ge h1]; omega)
   go_wp2
   go_loop [5, 6] (fun n i => n = .int .i64 0 ∧ i = .int .i64 a) (fun _ _ => 0)
   case atStart => exact ⟨rfl, rfl⟩
   case round =>
    obtain ⟨rfl, rfl⟩ := hrel
    go_wp2
    go_ret
    exact ⟨ret_int hg.out.symm, rfl⟩
 · have hg := Lib.hid (gap_ge h1)
   have h3 : b < a := by omega
   clear h1 h2
   go_wp2
   go_loop [5, 6] (fun n i => ∃ k : Nat, (k : Int) ≤ a - b ∧ n = .int .i64 k ∧ i = .int .i64 (b + k)) (fun _ i => (a - intOf i).toNat)
   case atStart => exact ⟨0, by omega, rfl, by simp⟩
   case round =>
    obtain ⟨k, hk, rfl, rfl⟩ := hrel
    by_cases hlt : b + k < a
    · go_wp2
      go_round
      case rel => exact ⟨k + 1, by omega, by go_num, by go_num⟩
      case measure => simp [intOf]; omega
    · obtain rfl : a = b + k := by omega
      go_wp2
      go_ret
      exact ⟨ret_int (by rw [hg.out]; omega), rfl⟩
theorem Dist_any (ax ay bx by_ : Int) (w : World) :
 Calls Tryz.prog 99 #[.agg #[.int .i64 ax, .int .i64 ay], .agg #[.int .i64 bx, .int .i64 by_]] w fun e w' => e = .returned (.int .i64 (distV (ax, ay) (bx, by_))) ∧ Below w.heap.size w w' := by
 have hb0 : Below w.heap.size w ((w.alloc (.cells #[.int .i64 ax, .int .i64 ay] 30)).alloc (.cells #[.int .i64 bx, .int .i64 by_] 30)) := ((Below.refl _ _).alloc (Nat.le_refl _) _).alloc (by simp) _
 cases h1 : mayB (ax, ay)
 · have hd := Lib.hid (distV_no1 (b := (bx, by_)) h1)
   go_enter Tryz.func99, Tryz.ntmps99
   go_wp2_with fail
   refine (May_any _ _ _).mono ?_
   rintro e w1 ⟨rfl, hb1⟩
   rw [h1]
   go_wp2
   go_ret
   exact ⟨ret_int hd.out.symm, hb0.trans (hb1.mono hb0.size)⟩
 · cases h2 : mayB (bx, by_)
   · have hd := Lib.hid (distV_no2 (a := (ax, ay)) h2)
     go_enter Tryz.func99, Tryz.ntmps99
     go_wp2_with fail
     refine (May_any _ _ _).mono ?_
     rintro e w1 ⟨rfl, hb1⟩
     rw [h1]
     have c3 := (hb1.cell (p := ⟨w.heap.size + 1, 0, none⟩) (by simp)).trans (show _ = some (.int .i64 bx) by go_simp)
     have c4 := (hb1.cell (p := ⟨w.heap.size + 1, 1, none⟩) (by simp)).trans (show _ = some (.int .i64 by_) by go_simp)
     go_wp2_with fail
     refine (May_any _ _ _).mono ?_
     rintro e w2 ⟨rfl, hb2⟩
     rw [h2]
     go_wp2
     go_ret
     exact ⟨ret_int hd.out.symm, (hb0.trans (hb1.mono hb0.size)).trans (hb2.mono (hb0.trans (hb1.mono hb0.size)).size)⟩
   · have hd := Lib.hid (distV_yes h1 h2)
     have m1 := (mayB_iff _).1 h1
     have m2 := (mayB_iff _).1 h2
     simp only at m1 m2
     go_enter Tryz.func99, Tryz.ntmps99
     go_wp2_with fail
     refine (May_any _ _ _).mono ?_
     rintro e w1 ⟨rfl, hb1⟩
     rw [h1]
     have c3 := (hb1.cell (p := ⟨w.heap.size + 1, 0, none⟩) (by simp)).trans (show _ = some (.int .i64 bx) by go_simp)
     have c4 := (hb1.cell (p := ⟨w.heap.size + 1, 1, none⟩) (by simp)).trans (show _ = some (.int .i64 by_) by go_simp)
     go_wp2_with fail
     refine (May_any _ _ _).mono ?_
     rintro e w2 ⟨rfl, hb2⟩
     rw [h2]
     have d1 := (hb2.cell (p := ⟨w.heap.size, 0, none⟩) (Nat.lt_of_lt_of_le (by simp; omega) hb1.size)).trans ((hb1.cell (p := ⟨w.heap.size, 0, none⟩) (by simp; omega)).trans (show _ = some (.int .i64 ax) by go_simp))
     have d2 := (hb2.cell (p := ⟨w.heap.size, 1, none⟩) (Nat.lt_of_lt_of_le (by simp; omega) hb1.size)).trans ((hb1.cell (p := ⟨w.heap.size, 1, none⟩) (by simp; omega)).trans (show _ = some (.int .i64 ay) by go_simp))
     have d3 := (hb2.cell (p := ⟨w.heap.size + 1, 0, none⟩) (Nat.lt_of_lt_of_le (by simp) hb1.size)).trans c3
     have d4 := (hb2.cell (p := ⟨w.heap.size + 1, 1, none⟩) (Nat.lt_of_lt_of_le (by simp) hb1.size)).trans c4
     clear c3 c4
     have hB : Below w.heap.size w w2 := (hb0.trans (hb1.mono hb0.size)).trans (hb2.mono (hb0.trans (hb1.mono hb0.size)).size)
     have g1 := gap_side m1.1 m2.1
     have g2 := gap_side m1.2 m2.2
     clear hb1 hb2 hb0
     go_wp2
     go_quiet ((go_at_call 110; refine Calls.quiet_of_same (apart_any _ _ (by omega) (by omega) _)))
     go_wp2
     go_ret
     exact ⟨ret_int hd.out.symm, below_drewN hB nq⟩
end Go.Proofs.YteclpblfleakhaaGreatDoor.Place

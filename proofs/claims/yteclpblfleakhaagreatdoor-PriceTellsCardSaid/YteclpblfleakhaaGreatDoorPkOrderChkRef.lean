import Derived.Test.YteclpblfleakhaaGreatDoorPkOrderChk

namespace Go.Proofs.YteclpblfleakhaaGreatDoor.Order
open Go.RowKit Go.Sort Go.Proofs.YteclpblfleakhaaGreatDoor.Mem Go.Proofs.YteclpblfleakhaaGreatDoor.Place Go.Proofs.YteclpblfleakhaaGreatDoor.Window
set_option linter.unusedVariables false
theorem refWindow_any (e l : Int) (w : World) :
 Calls Tryz.prog 87 #[.agg #[.int .i64 e, .int .i64 l]] w fun r w' => r = .returned (.bool (okB e l)) ∧ Below w.heap.size w w' := by
 by_cases h1 : 0 ≤ e
 · by_cases h2 : e ≤ l
   · have hm := Lib.hid (ok_yes2 h1 h2)
     go_enter Tryz.func87, Tryz.ntmps87
     go_wp2
     go_ret
     exact ⟨ret_bool hm.out.symm, (Below.refl _ _).alloc (Nat.le_refl _) _⟩
   · have hm := Lib.hid (ok_no2 h2)
     go_enter Tryz.func87, Tryz.ntmps87
     go_wp2
     go_ret
     exact ⟨ret_bool hm.out.symm, (Below.refl _ _).alloc (Nat.le_refl _) _⟩
 · have hm := Lib.hid (ok_no1 (l := l) h1)
   go_enter Tryz.func87, Tryz.ntmps87
   go_wp2
   go_ret
   exact ⟨ret_bool hm.out.symm, (Below.refl _ _).alloc (Nat.le_refl _) _⟩
theorem btw_of {n a b : Int} (h1 : a ≤ n) (h2 : n ≤ b) : btwB n a b = true := (btwB_iff n a b).2 ⟨h1, h2⟩
theorem btw_lo {n a b : Int} (h1 : ¬ a ≤ n) : btwB n a b = false := by simp [btwB, h1]
theorem btw_hi {n a b : Int} (h2 : ¬ n ≤ b) : btwB n a b = false := by simp [btwB, h2]
set_option maxHeartbeats 4000000 in
theorem refCheck_any (fx fy tx ty pe pl de dl ld sv : Int) (w : World) :
 Calls Tryz.prog 69 #[.agg #[.int .i64 fx, .int .i64 fy, .int .i64 tx, .int .i64 ty, .int .i64 pe, .int .i64 pl, .int .i64 de, .int .i64 dl, .int .i64 ld, .int .i64 sv]] w fun r w' => r = .returned (.int .i64 (chk fx fy tx ty pe pl de dl ld sv)) ∧ Below w.heap.size w w' := by
 have hP : At (w.alloc (.cells #[.int .i64 fx, .int .i64 fy, .int .i64 tx, .int .i64 ty, .int .i64 pe, .int .i64 pl, .int .i64 de, .int .i64 dl, .int .i64 ld, .int .i64 sv] 43)) w.heap.size 43 #[.int .i64 fx, .int .i64 fy, .int .i64 tx, .int .i64 ty, .int .i64 pe, .int .i64 pl, .int .i64 de, .int .i64 dl, .int .i64 ld, .int .i64 sv] := At.new w _ _
 have hB : Below w.heap.size w (w.alloc (.cells #[.int .i64 fx, .int .i64 fy, .int .i64 tx, .int .i64 ty, .int .i64 pe, .int .i64 pl, .int .i64 de, .int .i64 dl, .int .i64 ld, .int .i64 sv] 43)) := (Below.refl _ _).alloc (Nat.le_refl _) _
 obtain ⟨b1, h1⟩ : ∃ b, mayB (fx, fy) = b := ⟨_, rfl⟩
 obtain ⟨b2, h2⟩ : ∃ b, okB pe pl = b := ⟨_, rfl⟩
 obtain ⟨b3, h3⟩ : ∃ b, btwB ld 1 1000 = b := ⟨_, rfl⟩
 obtain ⟨b4, h4⟩ : ∃ b, mayB (tx, ty) = b := ⟨_, rfl⟩
 obtain ⟨b5, h5⟩ : ∃ b, okB de dl = b := ⟨_, rfl⟩
 obtain ⟨b6, h6⟩ : ∃ b, btwB sv 0 1000 = b := ⟨_, rfl⟩
 have hE : chk fx fy tx ty pe pl de dl ld sv = ff (b1 && b4) (b2 && b5) (b3 && b6) 4 5 6 := by unfold chk; rw [h1, h2, h3, h4, h5, h6]
 rw [hE]
 clear hE
 have cF : ∀ w, Calls Tryz.prog 84 #[.agg #[.int .i64 fx, .int .i64 fy]] w fun e w' => e = .returned (.bool b1) ∧ Below w.heap.size w w' := fun w => by rw [← h1]; exact Place.refMay_any _ _ w
 have cT : ∀ w, Calls Tryz.prog 84 #[.agg #[.int .i64 tx, .int .i64 ty]] w fun e w' => e = .returned (.bool b4) ∧ Below w.heap.size w w' := fun w => by rw [← h4]; exact Place.refMay_any _ _ w
 have cP : ∀ w, Calls Tryz.prog 87 #[.agg #[.int .i64 pe, .int .i64 pl]] w fun e w' => e = .returned (.bool b2) ∧ Below w.heap.size w w' := fun w => by rw [← h2]; exact refWindow_any _ _ w
 have cD : ∀ w, Calls Tryz.prog 87 #[.agg #[.int .i64 de, .int .i64 dl]] w fun e w' => e = .returned (.bool b5) ∧ Below w.heap.size w w' := fun w => by rw [← h5]; exact refWindow_any _ _ w
 clear h1 h2 h4 h5
 cases b1
 · go_enter Tryz.func69, Tryz.ntmps69
   go_wp2_with fail
   generalize (w.alloc (.cells #[.int .i64 fx, .int .i64 fy, .int .i64 tx, .int .i64 ty, .int .i64 pe, .int .i64 pl, .int .i64 de, .int .i64 dl, .int .i64 ld, .int .i64 sv] 43)) = w0 at *
   refine (cF _).mono ?_
   rintro e w' ⟨rfl, hb1⟩
   replace hP := hP.keep hb1 hP.inside
   replace hB := hB.trans (hb1.mono hB.size)
   clear hb1
   try clear c0 c1 c2 c3 c4 c5 c6 c7 c8 c9
   have c0 := hP.cell 0
   have c1 := hP.cell 1
   have c2 := hP.cell 2
   have c3 := hP.cell 3
   have c4 := hP.cell 4
   have c5 := hP.cell 5
   have c6 := hP.cell 6
   have c7 := hP.cell 7
   have c8 := hP.cell 8
   have c9 := hP.cell 9
   simp at c0 c1 c2 c3 c4 c5 c6 c7 c8 c9
   go_wp2
   go_ret
   exact ⟨ret_int (by simp [ff]), hB⟩
 · skip
   cases b4
   · go_enter Tryz.func69, Tryz.ntmps69
     go_wp2_with fail
     generalize (w.alloc (.cells #[.int .i64 fx, .int .i64 fy, .int .i64 tx, .int .i64 ty, .int .i64 pe, .int .i64 pl, .int .i64 de, .int .i64 dl, .int .i64 ld, .int .i64 sv] 43)) = w0 at *
     refine (cF _).mono ?_
     rintro e w' ⟨rfl, hb1⟩
     replace hP := hP.keep hb1 hP.inside
     replace hB := hB.trans (hb1.mono hB.size)
     clear hb1
     try clear c0 c1 c2 c3 c4 c5 c6 c7 c8 c9
     have c0 := hP.cell 0
     have c1 := hP.cell 1
     have c2 := hP.cell 2
     have c3 := hP.cell 3
     have c4 := hP.cell 4
     have c5 := hP.cell 5
     have c6 := hP.cell 6
     have c7 := hP.cell 7
     have c8 := hP.cell 8
     have c9 := hP.cell 9
     simp at c0 c1 c2 c3 c4 c5 c6 c7 c8 c9
     go_wp2_with fail
     refine (cT _).mono ?_
     rintro e w' ⟨rfl, hb1⟩
     replace hP := hP.keep hb1 hP.inside
     replace hB := hB.trans (hb1.mono hB.size)
     clear hb1
     try clear c0 c1 c2 c3 c4 c5 c6 c7 c8 c9
     have c0 := hP.cell 0
     have c1 := hP.cell 1
     have c2 := hP.cell 2
     have c3 := hP.cell 3
     have c4 := hP.cell 4
     have c5 := hP.cell 5
     have c6 := hP.cell 6
     have c7 := hP.cell 7
     have c8 := hP.cell 8
     have c9 := hP.cell 9
     simp at c0 c1 c2 c3 c4 c5 c6 c7 c8 c9
     go_wp2
     go_ret
     exact ⟨ret_int (by simp [ff]), hB⟩
   · skip
     cases b2
     · go_enter Tryz.func69, Tryz.ntmps69
       go_wp2_with fail
       generalize (w.alloc (.cells #[.int .i64 fx, .int .i64 fy, .int .i64 tx, .int .i64 ty, .int .i64 pe, .int .i64 pl, .int .i64 de, .int .i64 dl, .int .i64 ld, .int .i64 sv] 43)) = w0 at *
       refine (cF _).mono ?_
       rintro e w' ⟨rfl, hb1⟩
       replace hP := hP.keep hb1 hP.inside
       replace hB := hB.trans (hb1.mono hB.size)
       clear hb1
       try clear c0 c1 c2 c3 c4 c5 c6 c7 c8 c9
       have c0 := hP.cell 0
       have c1 := hP.cell 1
       have c2 := hP.cell 2
       have c3 := hP.cell 3
       have c4 := hP.cell 4
       have c5 := hP.cell 5
       have c6 := hP.cell 6
       have c7 := hP.cell 7
       have c8 := hP.cell 8
       have c9 := hP.cell 9
       simp at c0 c1 c2 c3 c4 c5 c6 c7 c8 c9
       go_wp2_with fail
       refine (cT _).mono ?_
       rintro e w' ⟨rfl, hb1⟩
       replace hP := hP.keep hb1 hP.inside
       replace hB := hB.trans (hb1.mono hB.size)
       clear hb1
       try clear c0 c1 c2 c3 c4 c5 c6 c7 c8 c9
       have c0 := hP.cell 0
       have c1 := hP.cell 1
       have c2 := hP.cell 2
       have c3 := hP.cell 3
       have c4 := hP.cell 4
       have c5 := hP.cell 5
       have c6 := hP.cell 6
       have c7 := hP.cell 7
       have c8 := hP.cell 8
       have c9 := hP.cell 9
       simp at c0 c1 c2 c3 c4 c5 c6 c7 c8 c9
       go_wp2_with fail
       refine (cP _).mono ?_
       rintro e w' ⟨rfl, hb1⟩
       replace hP := hP.keep hb1 hP.inside
       replace hB := hB.trans (hb1.mono hB.size)
       clear hb1
       try clear c0 c1 c2 c3 c4 c5 c6 c7 c8 c9
       have c0 := hP.cell 0
       have c1 := hP.cell 1
       have c2 := hP.cell 2
       have c3 := hP.cell 3
       have c4 := hP.cell 4
       have c5 := hP.cell 5
       have c6 := hP.cell 6
       have c7 := hP.cell 7
       have c8 := hP.cell 8
       have c9 := hP.cell 9
       simp at c0 c1 c2 c3 c4 c5 c6 c7 c8 c9
       go_wp2
       go_ret
       exact ⟨ret_int (by simp [ff]), hB⟩
     · skip
       cases b5
       · go_enter Tryz.func69, Tryz.ntmps69
         go_wp2_with fail
         generalize (w.alloc (.cells #[.int .i64 fx, .int .i64 fy, .int .i64 tx, .int .i64 ty, .int .i64 pe, .int .i64 pl, .int .i64 de, .int .i64 dl, .int .i64 ld, .int .i64 sv] 43)) = w0 at *
         refine (cF _).mono ?_
         rintro e w' ⟨rfl, hb1⟩
         replace hP := hP.keep hb1 hP.inside
         replace hB := hB.trans (hb1.mono hB.size)
         clear hb1
         try clear c0 c1 c2 c3 c4 c5 c6 c7 c8 c9
         have c0 := hP.cell 0
         have c1 := hP.cell 1
         have c2 := hP.cell 2
         have c3 := hP.cell 3
         have c4 := hP.cell 4
         have c5 := hP.cell 5
         have c6 := hP.cell 6
         have c7 := hP.cell 7
         have c8 := hP.cell 8
         have c9 := hP.cell 9
         simp at c0 c1 c2 c3 c4 c5 c6 c7 c8 c9
         go_wp2_with fail
         refine (cT _).mono ?_
         rintro e w' ⟨rfl, hb1⟩
         replace hP := hP.keep hb1 hP.inside
         replace hB := hB.trans (hb1.mono hB.size)
         clear hb1
         try clear c0 c1 c2 c3 c4 c5 c6 c7 c8 c9
         have c0 := hP.cell 0
         have c1 := hP.cell 1
         have c2 := hP.cell 2
         have c3 := hP.cell 3
         have c4 := hP.cell 4
         have c5 := hP.cell 5
         have c6 := hP.cell 6
         have c7 := hP.cell 7
         have c8 := hP.cell 8
         have c9 := hP.cell 9
         simp at c0 c1 c2 c3 c4 c5 c6 c7 c8 c9
         go_wp2_with fail
         refine (cP _).mono ?_
         rintro e w' ⟨rfl, hb1⟩
         replace hP := hP.keep hb1 hP.inside
         replace hB := hB.trans (hb1.mono hB.size)
         clear hb1
         try clear c0 c1 c2 c3 c4 c5 c6 c7 c8 c9
         have c0 := hP.cell 0
         have c1 := hP.cell 1
         have c2 := hP.cell 2
         have c3 := hP.cell 3
         have c4 := hP.cell 4
         have c5 := hP.cell 5
         have c6 := hP.cell 6
         have c7 := hP.cell 7
         have c8 := hP.cell 8
         have c9 := hP.cell 9
         simp at c0 c1 c2 c3 c4 c5 c6 c7 c8 c9
         go_wp2_with fail
         refine (cD _).mono ?_
         rintro e w' ⟨rfl, hb1⟩
         replace hP := hP.keep hb1 hP.inside
         replace hB := hB.trans (hb1.mono hB.size)
         clear hb1
         try clear c0 c1 c2 c3 c4 c5 c6 c7 c8 c9
         have c0 := hP.cell 0
         have c1 := hP.cell 1
         have c2 := hP.cell 2
         have c3 := hP.cell 3
         have c4 := hP.cell 4
         have c5 := hP.cell 5
         have c6 := hP.cell 6
         have c7 := hP.cell 7
         have c8 := hP.cell 8
         have c9 := hP.cell 9
         simp at c0 c1 c2 c3 c4 c5 c6 c7 c8 c9
         go_wp2
         go_ret
         exact ⟨ret_int (by simp [ff]), hB⟩
       · skip
         by_cases l1 : 1 ≤ ld
         · skip
           by_cases l2 : ld ≤ 1000
           · skip
             by_cases s1 : 0 ≤ sv
             · skip
               by_cases s2 : sv ≤ 1000
               · skip
                 have e3 := Lib.hid (h3.symm.trans (btw_of l1 l2))
                 have e6 := Lib.hid (h6.symm.trans (btw_of s1 s2))
                 clear h3 h6
                 go_enter Tryz.func69, Tryz.ntmps69
                 go_wp2_with fail
                 generalize (w.alloc (.cells #[.int .i64 fx, .int .i64 fy, .int .i64 tx, .int .i64 ty, .int .i64 pe, .int .i64 pl, .int .i64 de, .int .i64 dl, .int .i64 ld, .int .i64 sv] 43)) = w0 at *
                 refine (cF _).mono ?_
                 rintro e w' ⟨rfl, hb1⟩
                 replace hP := hP.keep hb1 hP.inside
                 replace hB := hB.trans (hb1.mono hB.size)
                 clear hb1
                 try clear c0 c1 c2 c3 c4 c5 c6 c7 c8 c9
                 have c0 := hP.cell 0
                 have c1 := hP.cell 1
                 have c2 := hP.cell 2
                 have c3 := hP.cell 3
                 have c4 := hP.cell 4
                 have c5 := hP.cell 5
                 have c6 := hP.cell 6
                 have c7 := hP.cell 7
                 have c8 := hP.cell 8
                 have c9 := hP.cell 9
                 simp at c0 c1 c2 c3 c4 c5 c6 c7 c8 c9
                 go_wp2_with fail
                 refine (cT _).mono ?_
                 rintro e w' ⟨rfl, hb1⟩
                 replace hP := hP.keep hb1 hP.inside
                 replace hB := hB.trans (hb1.mono hB.size)
                 clear hb1
                 try clear c0 c1 c2 c3 c4 c5 c6 c7 c8 c9
                 have c0 := hP.cell 0
                 have c1 := hP.cell 1
                 have c2 := hP.cell 2
                 have c3 := hP.cell 3
                 have c4 := hP.cell 4
                 have c5 := hP.cell 5
                 have c6 := hP.cell 6
                 have c7 := hP.cell 7
                 have c8 := hP.cell 8
                 have c9 := hP.cell 9
                 simp at c0 c1 c2 c3 c4 c5 c6 c7 c8 c9
                 go_wp2_with fail
                 refine (cP _).mono ?_
                 rintro e w' ⟨rfl, hb1⟩
                 replace hP := hP.keep hb1 hP.inside
                 replace hB := hB.trans (hb1.mono hB.size)
                 clear hb1
                 try clear c0 c1 c2 c3 c4 c5 c6 c7 c8 c9
                 have c0 := hP.cell 0
                 have c1 := hP.cell 1
                 have c2 := hP.cell 2
                 have c3 := hP.cell 3
                 have c4 := hP.cell 4
                 have c5 := hP.cell 5
                 have c6 := hP.cell 6
                 have c7 := hP.cell 7
                 have c8 := hP.cell 8
                 have c9 := hP.cell 9
                 simp at c0 c1 c2 c3 c4 c5 c6 c7 c8 c9
                 go_wp2_with fail
                 refine (cD _).mono ?_
                 rintro e w' ⟨rfl, hb1⟩
                 replace hP := hP.keep hb1 hP.inside
                 replace hB := hB.trans (hb1.mono hB.size)
                 clear hb1
                 try clear c0 c1 c2 c3 c4 c5 c6 c7 c8 c9
                 have c0 := hP.cell 0
                 have c1 := hP.cell 1
                 have c2 := hP.cell 2
                 have c3 := hP.cell 3
                 have c4 := hP.cell 4
                 have c5 := hP.cell 5
                 have c6 := hP.cell 6
                 have c7 := hP.cell 7
                 have c8 := hP.cell 8
                 have c9 := hP.cell 9
                 simp at c0 c1 c2 c3 c4 c5 c6 c7 c8 c9
                 go_wp2
                 go_ret
                 exact ⟨ret_int (by rw [e3.out, e6.out]; simp [ff]), hB⟩
               · have e1 := Lib.hid (h6.symm.trans (btw_hi s2))
                 clear h3 h6
                 go_enter Tryz.func69, Tryz.ntmps69
                 go_wp2_with fail
                 generalize (w.alloc (.cells #[.int .i64 fx, .int .i64 fy, .int .i64 tx, .int .i64 ty, .int .i64 pe, .int .i64 pl, .int .i64 de, .int .i64 dl, .int .i64 ld, .int .i64 sv] 43)) = w0 at *
                 refine (cF _).mono ?_
                 rintro e w' ⟨rfl, hb1⟩
                 replace hP := hP.keep hb1 hP.inside
                 replace hB := hB.trans (hb1.mono hB.size)
                 clear hb1
                 try clear c0 c1 c2 c3 c4 c5 c6 c7 c8 c9
                 have c0 := hP.cell 0
                 have c1 := hP.cell 1
                 have c2 := hP.cell 2
                 have c3 := hP.cell 3
                 have c4 := hP.cell 4
                 have c5 := hP.cell 5
                 have c6 := hP.cell 6
                 have c7 := hP.cell 7
                 have c8 := hP.cell 8
                 have c9 := hP.cell 9
                 simp at c0 c1 c2 c3 c4 c5 c6 c7 c8 c9
                 go_wp2_with fail
                 refine (cT _).mono ?_
                 rintro e w' ⟨rfl, hb1⟩
                 replace hP := hP.keep hb1 hP.inside
                 replace hB := hB.trans (hb1.mono hB.size)
                 clear hb1
                 try clear c0 c1 c2 c3 c4 c5 c6 c7 c8 c9
                 have c0 := hP.cell 0
                 have c1 := hP.cell 1
                 have c2 := hP.cell 2
                 have c3 := hP.cell 3
                 have c4 := hP.cell 4
                 have c5 := hP.cell 5
                 have c6 := hP.cell 6
                 have c7 := hP.cell 7
                 have c8 := hP.cell 8
                 have c9 := hP.cell 9
                 simp at c0 c1 c2 c3 c4 c5 c6 c7 c8 c9
                 go_wp2_with fail
                 refine (cP _).mono ?_
                 rintro e w' ⟨rfl, hb1⟩
                 replace hP := hP.keep hb1 hP.inside
                 replace hB := hB.trans (hb1.mono hB.size)
                 clear hb1
                 try clear c0 c1 c2 c3 c4 c5 c6 c7 c8 c9
                 have c0 := hP.cell 0
                 have c1 := hP.cell 1
                 have c2 := hP.cell 2
                 have c3 := hP.cell 3
                 have c4 := hP.cell 4
                 have c5 := hP.cell 5
                 have c6 := hP.cell 6
                 have c7 := hP.cell 7
                 have c8 := hP.cell 8
                 have c9 := hP.cell 9
                 simp at c0 c1 c2 c3 c4 c5 c6 c7 c8 c9
                 go_wp2_with fail
                 refine (cD _).mono ?_
                 rintro e w' ⟨rfl, hb1⟩
                 replace hP := hP.keep hb1 hP.inside
                 replace hB := hB.trans (hb1.mono hB.size)
                 clear hb1
                 try clear c0 c1 c2 c3 c4 c5 c6 c7 c8 c9
                 have c0 := hP.cell 0
                 have c1 := hP.cell 1
                 have c2 := hP.cell 2
                 have c3 := hP.cell 3
                 have c4 := hP.cell 4
                 have c5 := hP.cell 5
                 have c6 := hP.cell 6
                 have c7 := hP.cell 7
                 have c8 := hP.cell 8
                 have c9 := hP.cell 9
                 simp at c0 c1 c2 c3 c4 c5 c6 c7 c8 c9
                 go_wp2
                 go_ret
                 exact ⟨ret_int (by rw [e1.out]; simp [ff]), hB⟩
             · have e1 := Lib.hid (h6.symm.trans (btw_lo s1))
               clear h3 h6
               go_enter Tryz.func69, Tryz.ntmps69
               go_wp2_with fail
               generalize (w.alloc (.cells #[.int .i64 fx, .int .i64 fy, .int .i64 tx, .int .i64 ty, .int .i64 pe, .int .i64 pl, .int .i64 de, .int .i64 dl, .int .i64 ld, .int .i64 sv] 43)) = w0 at *
               refine (cF _).mono ?_
               rintro e w' ⟨rfl, hb1⟩
               replace hP := hP.keep hb1 hP.inside
               replace hB := hB.trans (hb1.mono hB.size)
               clear hb1
               try clear c0 c1 c2 c3 c4 c5 c6 c7 c8 c9
               have c0 := hP.cell 0
               have c1 := hP.cell 1
               have c2 := hP.cell 2
               have c3 := hP.cell 3
               have c4 := hP.cell 4
               have c5 := hP.cell 5
               have c6 := hP.cell 6
               have c7 := hP.cell 7
               have c8 := hP.cell 8
               have c9 := hP.cell 9
               simp at c0 c1 c2 c3 c4 c5 c6 c7 c8 c9
               go_wp2_with fail
               refine (cT _).mono ?_
               rintro e w' ⟨rfl, hb1⟩
               replace hP := hP.keep hb1 hP.inside
               replace hB := hB.trans (hb1.mono hB.size)
               clear hb1
               try clear c0 c1 c2 c3 c4 c5 c6 c7 c8 c9
               have c0 := hP.cell 0
               have c1 := hP.cell 1
               have c2 := hP.cell 2
               have c3 := hP.cell 3
               have c4 := hP.cell 4
               have c5 := hP.cell 5
               have c6 := hP.cell 6
               have c7 := hP.cell 7
               have c8 := hP.cell 8
               have c9 := hP.cell 9
               simp at c0 c1 c2 c3 c4 c5 c6 c7 c8 c9
               go_wp2_with fail
               refine (cP _).mono ?_
               rintro e w' ⟨rfl, hb1⟩
               replace hP := hP.keep hb1 hP.inside
               replace hB := hB.trans (hb1.mono hB.size)
               clear hb1
               try clear c0 c1 c2 c3 c4 c5 c6 c7 c8 c9
               have c0 := hP.cell 0
               have c1 := hP.cell 1
               have c2 := hP.cell 2
               have c3 := hP.cell 3
               have c4 := hP.cell 4
               have c5 := hP.cell 5
               have c6 := hP.cell 6
               have c7 := hP.cell 7
               have c8 := hP.cell 8
               have c9 := hP.cell 9
               simp at c0 c1 c2 c3 c4 c5 c6 c7 c8 c9
               go_wp2_with fail
               refine (cD _).mono ?_
               rintro e w' ⟨rfl, hb1⟩
               replace hP := hP.keep hb1 hP.inside
               replace hB := hB.trans (hb1.mono hB.size)
               clear hb1
               try clear c0 c1 c2 c3 c4 c5 c6 c7 c8 c9
               have c0 := hP.cell 0
               have c1 := hP.cell 1
               have c2 := hP.cell 2
               have c3 := hP.cell 3
               have c4 := hP.cell 4
               have c5 := hP.cell 5
               have c6 := hP.cell 6
               have c7 := hP.cell 7
               have c8 := hP.cell 8
               have c9 := hP.cell 9
               simp at c0 c1 c2 c3 c4 c5 c6 c7 c8 c9
               go_wp2
               go_ret
               exact ⟨ret_int (by rw [e1.out]; simp [ff]), hB⟩
           · have e1 := Lib.hid (h3.symm.trans (btw_hi l2))
             clear h3 h6
             go_enter Tryz.func69, Tryz.ntmps69
             go_wp2_with fail
             generalize (w.alloc (.cells #[.int .i64 fx, .int .i64 fy, .int .i64 tx, .int .i64 ty, .int .i64 pe, .int .i64 pl, .int .i64 de, .int .i64 dl, .int .i64 ld, .int .i64 sv] 43)) = w0 at *
             refine (cF _).mono ?_
             rintro e w' ⟨rfl, hb1⟩
             replace hP := hP.keep hb1 hP.inside
             replace hB := hB.trans (hb1.mono hB.size)
             clear hb1
             try clear c0 c1 c2 c3 c4 c5 c6 c7 c8 c9
             have c0 := hP.cell 0
             have c1 := hP.cell 1
             have c2 := hP.cell 2
             have c3 := hP.cell 3
             have c4 := hP.cell 4
             have c5 := hP.cell 5
             have c6 := hP.cell 6
             have c7 := hP.cell 7
             have c8 := hP.cell 8
             have c9 := hP.cell 9
             simp at c0 c1 c2 c3 c4 c5 c6 c7 c8 c9
             go_wp2_with fail
             refine (cT _).mono ?_
             rintro e w' ⟨rfl, hb1⟩
             replace hP := hP.keep hb1 hP.inside
             replace hB := hB.trans (hb1.mono hB.size)
             clear hb1
             try clear c0 c1 c2 c3 c4 c5 c6 c7 c8 c9
             have c0 := hP.cell 0
             have c1 := hP.cell 1
             have c2 := hP.cell 2
             have c3 := hP.cell 3
             have c4 := hP.cell 4
             have c5 := hP.cell 5
             have c6 := hP.cell 6
             have c7 := hP.cell 7
             have c8 := hP.cell 8
             have c9 := hP.cell 9
             simp at c0 c1 c2 c3 c4 c5 c6 c7 c8 c9
             go_wp2_with fail
             refine (cP _).mono ?_
             rintro e w' ⟨rfl, hb1⟩
             replace hP := hP.keep hb1 hP.inside
             replace hB := hB.trans (hb1.mono hB.size)
             clear hb1
             try clear c0 c1 c2 c3 c4 c5 c6 c7 c8 c9
             have c0 := hP.cell 0
             have c1 := hP.cell 1
             have c2 := hP.cell 2
             have c3 := hP.cell 3
             have c4 := hP.cell 4
             have c5 := hP.cell 5
             have c6 := hP.cell 6
             have c7 := hP.cell 7
             have c8 := hP.cell 8
             have c9 := hP.cell 9
             simp at c0 c1 c2 c3 c4 c5 c6 c7 c8 c9
             go_wp2_with fail
             refine (cD _).mono ?_
             rintro e w' ⟨rfl, hb1⟩
             replace hP := hP.keep hb1 hP.inside
             replace hB := hB.trans (hb1.mono hB.size)
             clear hb1
             try clear c0 c1 c2 c3 c4 c5 c6 c7 c8 c9
             have c0 := hP.cell 0
             have c1 := hP.cell 1
             have c2 := hP.cell 2
             have c3 := hP.cell 3
             have c4 := hP.cell 4
             have c5 := hP.cell 5
             have c6 := hP.cell 6
             have c7 := hP.cell 7
             have c8 := hP.cell 8
             have c9 := hP.cell 9
             simp at c0 c1 c2 c3 c4 c5 c6 c7 c8 c9
             go_wp2
             go_ret
             exact ⟨ret_int (by rw [e1.out]; simp [ff]), hB⟩
         · have e1 := Lib.hid (h3.symm.trans (btw_lo l1))
           clear h3 h6
           go_enter Tryz.func69, Tryz.ntmps69
           go_wp2_with fail
           generalize (w.alloc (.cells #[.int .i64 fx, .int .i64 fy, .int .i64 tx, .int .i64 ty, .int .i64 pe, .int .i64 pl, .int .i64 de, .int .i64 dl, .int .i64 ld, .int .i64 sv] 43)) = w0 at *
           refine (cF _).mono ?_
           rintro e w' ⟨rfl, hb1⟩
           replace hP := hP.keep hb1 hP.inside
           replace hB := hB.trans (hb1.mono hB.size)
           clear hb1
           try clear c0 c1 c2 c3 c4 c5 c6 c7 c8 c9
           have c0 := hP.cell 0
           have c1 := hP.cell 1
           have c2 := hP.cell 2
           have c3 := hP.cell 3
           have c4 := hP.cell 4
           have c5 := hP.cell 5
           have c6 := hP.cell 6
           have c7 := hP.cell 7
           have c8 := hP.cell 8
           have c9 := hP.cell 9
           simp at c0 c1 c2 c3 c4 c5 c6 c7 c8 c9
           go_wp2_with fail
           refine (cT _).mono ?_
           rintro e w' ⟨rfl, hb1⟩
           replace hP := hP.keep hb1 hP.inside
           replace hB := hB.trans (hb1.mono hB.size)
           clear hb1
           try clear c0 c1 c2 c3 c4 c5 c6 c7 c8 c9
           have c0 := hP.cell 0
           have c1 := hP.cell 1
           have c2 := hP.cell 2
           have c3 := hP.cell 3
           have c4 := hP.cell 4
           have c5 := hP.cell 5
           have c6 := hP.cell 6
           have c7 := hP.cell 7
           have c8 := hP.cell 8
           have c9 := hP.cell 9
           simp at c0 c1 c2 c3 c4 c5 c6 c7 c8 c9
           go_wp2_with fail
           refine (cP _).mono ?_
           rintro e w' ⟨rfl, hb1⟩
           replace hP := hP.keep hb1 hP.inside
           replace hB := hB.trans (hb1.mono hB.size)
           clear hb1
           try clear c0 c1 c2 c3 c4 c5 c6 c7 c8 c9
           have c0 := hP.cell 0
           have c1 := hP.cell 1
           have c2 := hP.cell 2
           have c3 := hP.cell 3
           have c4 := hP.cell 4
           have c5 := hP.cell 5
           have c6 := hP.cell 6
           have c7 := hP.cell 7
           have c8 := hP.cell 8
           have c9 := hP.cell 9
           simp at c0 c1 c2 c3 c4 c5 c6 c7 c8 c9
           go_wp2_with fail
           refine (cD _).mono ?_
           rintro e w' ⟨rfl, hb1⟩
           replace hP := hP.keep hb1 hP.inside
           replace hB := hB.trans (hb1.mono hB.size)
           clear hb1
           try clear c0 c1 c2 c3 c4 c5 c6 c7 c8 c9
           have c0 := hP.cell 0
           have c1 := hP.cell 1
           have c2 := hP.cell 2
           have c3 := hP.cell 3
           have c4 := hP.cell 4
           have c5 := hP.cell 5
           have c6 := hP.cell 6
           have c7 := hP.cell 7
           have c8 := hP.cell 8
           have c9 := hP.cell 9
           simp at c0 c1 c2 c3 c4 c5 c6 c7 c8 c9
           go_wp2
           go_ret
           exact ⟨ret_int (by rw [e1.out]; simp [ff]), hB⟩
set_option maxHeartbeats 4000000 in
theorem refVehicle_any (hx hy cp st en : Int) (w : World) :
 Calls Tryz.prog 68 #[.agg #[.int .i64 hx, .int .i64 hy, .int .i64 cp, .int .i64 st, .int .i64 en]] w fun r w' => r = .returned (.int .i64 (veh hx hy cp st en)) ∧ Below w.heap.size w w' := by
 have hP : At (w.alloc (.cells #[.int .i64 hx, .int .i64 hy, .int .i64 cp, .int .i64 st, .int .i64 en] 32)) w.heap.size 32 #[.int .i64 hx, .int .i64 hy, .int .i64 cp, .int .i64 st, .int .i64 en] := At.new w _ _
 have hB : Below w.heap.size w (w.alloc (.cells #[.int .i64 hx, .int .i64 hy, .int .i64 cp, .int .i64 st, .int .i64 en] 32)) := (Below.refl _ _).alloc (Nat.le_refl _) _
 obtain ⟨b1, h1⟩ : ∃ b, mayB (hx, hy) = b := ⟨_, rfl⟩
 obtain ⟨b2, h2⟩ : ∃ b, btwB cp 1 100000 = b := ⟨_, rfl⟩
 obtain ⟨b3, h3⟩ : ∃ b, btwB st 0 1048576 = b := ⟨_, rfl⟩
 obtain ⟨b4, h4⟩ : ∃ b, btwB en st 1048576 = b := ⟨_, rfl⟩
 have hE : veh hx hy cp st en = ff b1 b2 (b3 && b4) 4 7 7 := by unfold veh; rw [h1, h2, h3, h4]
 rw [hE]
 clear hE
 have cH : ∀ w, Calls Tryz.prog 84 #[.agg #[.int .i64 hx, .int .i64 hy]] w fun e w' => e = .returned (.bool b1) ∧ Below w.heap.size w w' := fun w => by rw [← h1]; exact Place.refMay_any _ _ w
 clear h1
 cases b1
 · go_enter Tryz.func68, Tryz.ntmps68
   go_wp2_with fail
   generalize (w.alloc (.cells #[.int .i64 hx, .int .i64 hy, .int .i64 cp, .int .i64 st, .int .i64 en] 32)) = w0 at *
   refine (cH _).mono ?_
   rintro e w' ⟨rfl, hb1⟩
   replace hP := hP.keep hb1 hP.inside
   replace hB := hB.trans (hb1.mono hB.size)
   clear hb1
   try clear c0 c1 c2 c3 c4
   have c0 := hP.cell 0
   have c1 := hP.cell 1
   have c2 := hP.cell 2
   have c3 := hP.cell 3
   have c4 := hP.cell 4
   simp at c0 c1 c2 c3 c4
   go_wp2
   go_ret
   exact ⟨ret_int (by simp [ff]), hB⟩
 · skip
   by_cases l1 : 1 ≤ cp
   · skip
     by_cases l2 : cp ≤ 100000
     · skip
       by_cases s1 : 0 ≤ st
       · skip
         by_cases s2 : st ≤ en
         · skip
           by_cases s3 : en ≤ 1048576
           · skip
             have e2 := Lib.hid (h2.symm.trans (btw_of l1 l2))
             have e3 := Lib.hid (h3.symm.trans (btw_of s1 (by omega)))
             have e4 := Lib.hid (h4.symm.trans (btw_of s2 s3))
             clear h2 h3 h4
             go_enter Tryz.func68, Tryz.ntmps68
             go_wp2_with fail
             generalize (w.alloc (.cells #[.int .i64 hx, .int .i64 hy, .int .i64 cp, .int .i64 st, .int .i64 en] 32)) = w0 at *
             refine (cH _).mono ?_
             rintro e w' ⟨rfl, hb1⟩
             replace hP := hP.keep hb1 hP.inside
             replace hB := hB.trans (hb1.mono hB.size)
             clear hb1
             try clear c0 c1 c2 c3 c4
             have c0 := hP.cell 0
             have c1 := hP.cell 1
             have c2 := hP.cell 2
             have c3 := hP.cell 3
             have c4 := hP.cell 4
             simp at c0 c1 c2 c3 c4
             go_wp2
             go_ret
             exact ⟨ret_int (by rw [e2.out, e3.out, e4.out]; simp [ff]), hB⟩
           · have e1 := Lib.hid (h4.symm.trans (btw_hi s3))
             clear h2 h3 h4
             go_enter Tryz.func68, Tryz.ntmps68
             go_wp2_with fail
             generalize (w.alloc (.cells #[.int .i64 hx, .int .i64 hy, .int .i64 cp, .int .i64 st, .int .i64 en] 32)) = w0 at *
             refine (cH _).mono ?_
             rintro e w' ⟨rfl, hb1⟩
             replace hP := hP.keep hb1 hP.inside
             replace hB := hB.trans (hb1.mono hB.size)
             clear hb1
             try clear c0 c1 c2 c3 c4
             have c0 := hP.cell 0
             have c1 := hP.cell 1
             have c2 := hP.cell 2
             have c3 := hP.cell 3
             have c4 := hP.cell 4
             simp at c0 c1 c2 c3 c4
             go_wp2
             go_ret
             exact ⟨ret_int (by rw [e1.out]; simp [ff]), hB⟩
         · have e1 := Lib.hid (h4.symm.trans (btw_lo s2))
           clear h2 h3 h4
           go_enter Tryz.func68, Tryz.ntmps68
           go_wp2_with fail
           generalize (w.alloc (.cells #[.int .i64 hx, .int .i64 hy, .int .i64 cp, .int .i64 st, .int .i64 en] 32)) = w0 at *
           refine (cH _).mono ?_
           rintro e w' ⟨rfl, hb1⟩
           replace hP := hP.keep hb1 hP.inside
           replace hB := hB.trans (hb1.mono hB.size)
           clear hb1
           try clear c0 c1 c2 c3 c4
           have c0 := hP.cell 0
           have c1 := hP.cell 1
           have c2 := hP.cell 2
           have c3 := hP.cell 3
           have c4 := hP.cell 4
           simp at c0 c1 c2 c3 c4
           go_wp2
           go_ret
           exact ⟨ret_int (by rw [e1.out]; simp [ff]), hB⟩
       · have e1 := Lib.hid (h3.symm.trans (btw_lo s1))
         clear h2 h3 h4
         go_enter Tryz.func68, Tryz.ntmps68
         go_wp2_with fail
         generalize (w.alloc (.cells #[.int .i64 hx, .int .i64 hy, .int .i64 cp, .int .i64 st, .int .i64 en] 32)) = w0 at *
         refine (cH _).mono ?_
         rintro e w' ⟨rfl, hb1⟩
         replace hP := hP.keep hb1 hP.inside
         replace hB := hB.trans (hb1.mono hB.size)
         clear hb1
         try clear c0 c1 c2 c3 c4
         have c0 := hP.cell 0
         have c1 := hP.cell 1
         have c2 := hP.cell 2
         have c3 := hP.cell 3
         have c4 := hP.cell 4
         simp at c0 c1 c2 c3 c4
         go_wp2
         go_ret
         exact ⟨ret_int (by rw [e1.out]; simp [ff]), hB⟩
     · have e1 := Lib.hid (h2.symm.trans (btw_hi l2))
       clear h2 h3 h4
       go_enter Tryz.func68, Tryz.ntmps68
       go_wp2_with fail
       generalize (w.alloc (.cells #[.int .i64 hx, .int .i64 hy, .int .i64 cp, .int .i64 st, .int .i64 en] 32)) = w0 at *
       refine (cH _).mono ?_
       rintro e w' ⟨rfl, hb1⟩
       replace hP := hP.keep hb1 hP.inside
       replace hB := hB.trans (hb1.mono hB.size)
       clear hb1
       try clear c0 c1 c2 c3 c4
       have c0 := hP.cell 0
       have c1 := hP.cell 1
       have c2 := hP.cell 2
       have c3 := hP.cell 3
       have c4 := hP.cell 4
       simp at c0 c1 c2 c3 c4
       go_wp2
       go_ret
       exact ⟨ret_int (by rw [e1.out]; simp [ff]), hB⟩
   · have e1 := Lib.hid (h2.symm.trans (btw_lo l1))
     clear h2 h3 h4
     go_enter Tryz.func68, Tryz.ntmps68
     go_wp2_with fail
     generalize (w.alloc (.cells #[.int .i64 hx, .int .i64 hy, .int .i64 cp, .int .i64 st, .int .i64 en] 32)) = w0 at *
     refine (cH _).mono ?_
     rintro e w' ⟨rfl, hb1⟩
     replace hP := hP.keep hb1 hP.inside
     replace hB := hB.trans (hb1.mono hB.size)
     clear hb1
     try clear c0 c1 c2 c3 c4
     have c0 := hP.cell 0
     have c1 := hP.cell 1
     have c2 := hP.cell 2
     have c3 := hP.cell 3
     have c4 := hP.cell 4
     simp at c0 c1 c2 c3 c4
     go_wp2
     go_ret
     exact ⟨ret_int (by rw [e1.out]; simp [ff]), hB⟩
end Go.Proofs.YteclpblfleakhaaGreatDoor.Order

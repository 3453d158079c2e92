import Derived.Test.YtpefdmkfmcjfnaaPkOrderChk

namespace Go.Proofs.Ytpefdmkfmcjfnaa.Order
open Go.RowKit Go.Sort Go.Proofs.Ytpefdmkfmcjfnaa.Mem Go.Proofs.Ytpefdmkfmcjfnaa.Place Go.Proofs.Ytpefdmkfmcjfnaa.Window
set_option linter.unusedVariables false
theorem refWindow_any (e l : Int) (w : World) :
 Calls Try.prog 61 #[.agg #[.int .i64 e, .int .i64 l]] w fun r w' => r = .returned (.bool (okB e l)) ∧ Below w.heap.size w w' := by
 by_cases h1 : 0 ≤ e
 · by_cases h2 : e ≤ l
   · have hm := Lib.hid (ok_yes2 h1 h2)
     go_enter Try.func61, Try.ntmps61
     go_wp2
     go_ret
     exact ⟨ret_bool hm.out.symm, (Below.refl _ _).alloc (Nat.le_refl _) _⟩
   · have hm := Lib.hid (ok_no2 h2)
     go_enter Try.func61, Try.ntmps61
     go_wp2
     go_ret
     exact ⟨ret_bool hm.out.symm, (Below.refl _ _).alloc (Nat.le_refl _) _⟩
 · have hm := Lib.hid (ok_no1 (l := l) h1)
   go_enter Try.func61, Try.ntmps61
   go_wp2
   go_ret
   exact ⟨ret_bool hm.out.symm, (Below.refl _ _).alloc (Nat.le_refl _) _⟩
theorem btw_of {n a b : Int} (h1 : a ≤ n) (h2 : n ≤ b) : btwB n a b = true := (btwB_iff n a b).2 ⟨h1, h2⟩
theorem btw_lo {n a b : Int} (h1 : ¬ a ≤ n) : btwB n a b = false := by simp [btwB, h1]
theorem btw_hi {n a b : Int} (h2 : ¬ n ≤ b) : btwB n a b = false := by simp [btwB, h2]
set_option maxHeartbeats 4000000 in
theorem refCheck_any (fx fy tx ty pe pl de dl ld sv : Int) (w : World) :
 Calls Try.prog 48 #[.agg #[.int .i64 fx, .int .i64 fy, .int .i64 tx, .int .i64 ty, .int .i64 pe, .int .i64 pl, .int .i64 de, .int .i64 dl, .int .i64 ld, .int .i64 sv]] w fun r w' => r = .returned (.int .i64 (chk fx fy tx ty pe pl de dl ld sv)) ∧ Below w.heap.size w w' := by
 have hP : At (w.alloc (.cells #[.int .i64 fx, .int .i64 fy, .int .i64 tx, .int .i64 ty, .int .i64 pe, .int .i64 pl, .int .i64 de, .int .i64 dl, .int .i64 ld, .int .i64 sv] 35)) w.heap.size 35 #[.int .i64 fx, .int .i64 fy, .int .i64 tx, .int .i64 ty, .int .i64 pe, .int .i64 pl, .int .i64 de, .int .i64 dl, .int .i64 ld, .int .i64 sv] := At.new w _ _
 have hB : Below w.heap.size w (w.alloc (.cells #[.int .i64 fx, .int .i64 fy, .int .i64 tx, .int .i64 ty, .int .i64 pe, .int .i64 pl, .int .i64 de, .int .i64 dl, .int .i64 ld, .int .i64 sv] 35)) := (Below.refl _ _).alloc (Nat.le_refl _) _
 obtain ⟨b1, h1⟩ : ∃ b, mayB (fx, fy) = b := ⟨_, rfl⟩
 obtain ⟨b2, h2⟩ : ∃ b, okB pe pl = b := ⟨_, rfl⟩
 obtain ⟨b3, h3⟩ : ∃ b, btwB ld 1 1000 = b := ⟨_, rfl⟩
 obtain ⟨b4, h4⟩ : ∃ b, mayB (tx, ty) = b := ⟨_, rfl⟩
 obtain ⟨b5, h5⟩ : ∃ b, okB de dl = b := ⟨_, rfl⟩
 obtain ⟨b6, h6⟩ : ∃ b, btwB sv 0 1000 = b := ⟨_, rfl⟩
 have hE : chk fx fy tx ty pe pl de dl ld sv = ff (b1 && b4) (b2 && b5) (b3 && b6) 4 5 6 := by unfold chk; rw [h1, h2, h3, h4, h5, h6]
 rw [hE]
 clear hE
 have cF : ∀ w, Calls Try.prog 60 #[.agg #[.int .i64 fx, .int .i64 fy]] w fun e w' => e = .returned (.bool b1) ∧ Below w.heap.size w w' := fun w => by rw [← h1]; exact Place.refMay_any _ _ w
 have cT : ∀ w, Calls Try.prog 60 #[.agg #[.int .i64 tx, .int .i64 ty]] w fun e w' => e = .returned (.bool b4) ∧ Below w.heap.size w w' := fun w => by rw [← h4]; exact Place.refMay_any _ _ w
 have cP : ∀ w, Calls Try.prog 61 #[.agg #[.int .i64 pe, .int .i64 pl]] w fun e w' => e = .returned (.bool b2) ∧ Below w.heap.size w w' := fun w => by rw [← h2]; exact refWindow_any _ _ w
 have cD : ∀ w, Calls Try.prog 61 #[.agg #[.int .i64 de, .int .i64 dl]] w fun e w' => e = .returned (.bool b5) ∧ Below w.heap.size w w' := fun w => by rw [← h5]; exact refWindow_any _ _ w
 clear h1 h2 h4 h5
 cases b1
 · go_enter Try.func48, Try.ntmps48
   go_wp2_with fail
   generalize (w.alloc (.cells #[.int .i64 fx, .int .i64 fy, .int .i64 tx, .int .i64 ty, .int .i64 pe, .int .i64 pl, .int .i64 de, .int .i64 dl, .int .i64 ld, .int .i64 sv] 35)) = w0 at *
   refine (cF _).mono ?_
   rintro e w' ⟨rfl, hb1⟩
   replace hP := hP.keep hb1 hP.inside
   replace hB := hB.trans (hb1.mono hB.size)
   clear hb1
   try clear c0 c1 c2 c3 c4 c5 c6 c7 c8 c9
   have c0 := hP.cell 0
   have c1 := hP.cell 1
   have c2 := hP.cell 2
   have c3 := hP.cell 3
   have c4 := hP.cell 4
   have c5 := hP.cell 5
   have c6 := hP.cell 6
   have c7 := hP.cell 7
   have c8 := hP.cell 8
   have c9 := hP.cell 9
   simp at c0 c1 c2 c3 c4 c5 c6 c7 c8 c9
   go_wp2
   go_ret
   exact ⟨ret_int (by simp [ff]), hB⟩
 · skip
   cases b4
   · go_enter Try.func48, Try.ntmps48
     go_wp2_with fail
     generalize (w.alloc (.cells #[.int .i64 fx, .int .i64 fy, .int .i64 tx, .int .i64 ty, .int .i64 pe, .int .i64 pl, .int .i64 de, .int .i64 dl, .int .i64 ld, .int .i64 sv] 35)) = w0 at *
     refine (cF _).mono ?_
     rintro e w' ⟨rfl, hb1⟩
     replace hP := hP.keep hb1 hP.inside
     replace hB := hB.trans (hb1.mono hB.size)
     clear hb1
     try clear c0 c1 c2 c3 c4 c5 c6 c7 c8 c9
     have c0 := hP.cell 0
     have c1 := hP.cell 1
     have c2 := hP.cell 2
     have c3 := hP.cell 3
     have c4 := hP.cell 4
     have c5 := hP.cell 5
     have c6 := hP.cell 6
     have c7 := hP.cell 7
     have c8 := hP.cell 8
     have c9 := hP.cell 9
     simp at c0 c1 c2 c3 c4 c5 c6 c7 c8 c9
     go_wp2_with fail
     refine (cT _).mono ?_
     rintro e w' ⟨rfl, hb1⟩
     replace hP := hP.keep hb1 hP.inside
     replace hB := hB.trans (hb1.mono hB.size)
     clear hb1
     try clear c0 c1 c2 c3 c4 c5 c6 c7 c8 c9
     have c0 := hP.cell 0
     have c1 := hP.cell 1
     have c2 := hP.cell 2
     have c3 := hP.cell 3
     have c4 := hP.cell 4
     have c5 := hP.cell 5
     have c6 := hP.cell 6
     have c7 := hP.cell 7
     have c8 := hP.cell 8
     have c9 := hP.cell 9
     simp at c0 c1 c2 c3 c4 c5 c6 c7 c8 c9
     go_wp2
     go_ret
     exact ⟨ret_int (by simp [ff]), hB⟩
   · skip
     cases b2
     · go_enter Try.func48, Try.ntmps48
       go_wp2_with fail
       generalize (w.alloc (.cells #[.int .i64 fx, .int .i64 fy, .int .i64 tx, .int .i64 ty, .int .i64 pe, .int .i64 pl, .int .i64 de, .int .i64 dl, .int .i64 ld, .int .i64 sv] 35)) = w0 at *
       refine (cF _).mono ?_
       rintro e w' ⟨rfl, hb1⟩
       replace hP := hP.keep hb1 hP.inside
       replace hB := hB.trans (hb1.mono hB.size)
       clear hb1
       try clear c0 c1 c2 c3 c4 c5 c6 c7 c8 c9
       have c0 := hP.cell 0
       have c1 := hP.cell 1
       have c2 := hP.cell 2
       have c3 := hP.cell 3
       have c4 := hP.cell 4
       have c5 := hP.cell 5
       have c6 := hP.cell 6
       have c7 := hP.cell 7
       have c8 := hP.cell 8
       have c9 := hP.cell 9
       simp at c0 c1 c2 c3 c4 c5 c6 c7 c8 c9
       go_wp2_with fail
       refine (cT _).mono ?_
       rintro e w' ⟨rfl, hb1⟩
       replace hP := hP.keep hb1 hP.inside
       replace hB := hB.trans (hb1.mono hB.size)
       clear hb1
       try clear c0 c1 c2 c3 c4 c5 c6 c7 c8 c9
       have c0 := hP.cell 0
       have c1 := hP.cell 1
       have c2 := hP.cell 2
       have c3 := hP.cell 3
       have c4 := hP.cell 4
       have c5 := hP.cell 5
       have c6 := hP.cell 6
       have c7 := hP.cell 7
       have c8 := hP.cell 8
       have c9 := hP.cell 9
       simp at c0 c1 c2 c3 c4 c5 c6 c7 c8 c9
       go_wp2_with fail
       refine (cP _).mono ?_
       rintro e w' ⟨rfl, hb1⟩
       replace hP := hP.keep hb1 hP.inside
       replace hB := hB.trans (hb1.mono hB.size)
       clear hb1
       try clear c0 c1 c2 c3 c4 c5 c6 c7 c8 c9
       have c0 := hP.cell 0
       have c1 := hP.cell 1
       have c2 := hP.cell 2
       have c3 := hP.cell 3
       have c4 := hP.cell 4
       have c5 := hP.cell 5
       have c6 := hP.cell 6
       have c7 := hP.cell 7
       have c8 := hP.cell 8
       have c9 := hP.cell 9
       simp at c0 c1 c2 c3 c4 c5 c6 c7 c8 c9
       go_wp2
       go_ret
       exact ⟨ret_int (by simp [ff]), hB⟩
     · skip
       cases b5
       · go_enter Try.func48, Try.ntmps48
         go_wp2_with fail
         generalize (w.alloc (.cells #[.int .i64 fx, .int .i64 fy, .int .i64 tx, .int .i64 ty, .int .i64 pe, .int .i64 pl, .int .i64 de, .int .i64 dl, .int .i64 ld, .int .i64 sv] 35)) = w0 at *
         refine (cF _).mono ?_
         rintro e w' ⟨rfl, hb1⟩
         replace hP := hP.keep hb1 hP.inside
         replace hB := hB.trans (hb1.mono hB.size)
         clear hb1
         try clear c0 c1 c2 c3 c4 c5 c6 c7 c8 c9
         have c0 := hP.cell 0
         have c1 := hP.cell 1
         have c2 := hP.cell 2
         have c3 := hP.cell 3
         have c4 := hP.cell 4
         have c5 := hP.cell 5
         have c6 := hP.cell 6
         have c7 := hP.cell 7
         have c8 := hP.cell 8
         have c9 := hP.cell 9
         simp at c0 c1 c2 c3 c4 c5 c6 c7 c8 c9
         go_wp2_with fail
         refine (cT _).mono ?_
         rintro e w' ⟨rfl, hb1⟩
         replace hP := hP.keep hb1 hP.inside
         replace hB := hB.trans (hb1.mono hB.size)
         clear hb1
         try clear c0 c1 c2 c3 c4 c5 c6 c7 c8 c9
         have c0 := hP.cell 0
         have c1 := hP.cell 1
         have c2 := hP.cell 2
         have c3 := hP.cell 3
         have c4 := hP.cell 4
         have c5 := hP.cell 5
         have c6 := hP.cell 6
         have c7 := hP.cell 7
         have c8 := hP.cell 8
         have c9 := hP.cell 9
         simp at c0 c1 c2 c3 c4 c5 c6 c7 c8 c9
         go_wp2_with fail
         refine (cP _).mono ?_
         rintro e w' ⟨rfl, hb1⟩
         replace hP := hP.keep hb1 hP.inside
         replace hB := hB.trans (hb1.mono hB.size)
         clear hb1
         try clear c0 c1 c2 c3 c4 c5 c6 c7 c8 c9
         have c0 := hP.cell 0
         have c1 := hP.cell 1
         have c2 := hP.cell 2
         have c3 := hP.cell 3
         have c4 := hP.cell 4
         have c5 := hP.cell 5
         have c6 := hP.cell 6
         have c7 := hP.cell 7
         have c8 := hP.cell 8
         have c9 := hP.cell 9
         simp at c0 c1 c2 c3 c4 c5 c6 c7 c8 c9
         go_wp2_with fail
         refine (cD _).mono ?_
         rintro e w' ⟨rfl, hb1⟩
         replace hP := hP.keep hb1 hP.inside
         replace hB := hB.trans (hb1.mono hB.size)
         clear hb1
         try clear c0 c1 c2 c3 c4 c5 c6 c7 c8 c9
         have c0 := hP.cell 0
         have c1 := hP.cell 1
         have c2 := hP.cell 2
         have c3 := hP.cell 3
         have c4 := hP.cell 4
         have c5 := hP.cell 5
         have c6 := hP.cell 6
         have c7 := hP.cell 7
         have c8 := hP.cell 8
         have c9 := hP.cell 9
         simp at c0 c1 c2 c3 c4 c5 c6 c7 c8 c9
         go_wp2
         go_ret
         exact ⟨ret_int (by simp [ff]), hB⟩
       · skip
         by_cases l1 : 1 ≤ ld
         · skip
           by_cases l2 : ld ≤ 1000
           · skip
             by_cases s1 : 0 ≤ sv
             · skip
               by_cases s2 : sv ≤ 1000
               · skip
                 have e3 := Lib.hid (h3.symm.trans (btw_of l1 l2))
                 have e6 := Lib.hid (h6.symm.trans (btw_of s1 s2))
                 clear h3 h6
                 go_enter Try.func48, Try.ntmps48
                 go_wp2_with fail
                 generalize (w.alloc (.cells #[.int .i64 fx, .int .i64 fy, .int .i64 tx, .int .i64 ty, .int .i64 pe, .int .i64 pl, .int .i64 de, .int .i64 dl, .int .i64 ld, .int .i64 sv] 35)) = w0 at *
                 refine (cF _).mono ?_
                 rintro e w' ⟨rfl, hb1⟩
                 replace hP := hP.keep hb1 hP.inside
                 replace hB := hB.trans (hb1.mono hB.size)
                 clear hb1
                 try clear c0 c1 c2 c3 c4 c5 c6 c7 c8 c9
                 have c0 := hP.cell 0
                 have c1 := hP.cell 1
                 have c2 := hP.cell 2
                 have c3 := hP.cell 3
                 have c4 := hP.cell 4
                 have c5 := hP.cell 5
                 have c6 := hP.cell 6
                 have c7 := hP.cell 7
                 have c8 := hP.cell 8
                 have c9 := hP.cell 9
                 simp at c0 c1 c2 c3 c4 c5 c6 c7 c8 c9
                 go_wp2_with fail
                 refine (cT _).mono ?_
                 rintro e w' ⟨rfl, hb1⟩
                 replace hP := hP.keep hb1 hP.inside
                 replace hB := hB.trans (hb1.mono hB.size)
                 clear hb1
                 try clear c0 c1 c2 c3 c4 c5 c6 c7 c8 c9
                 have c0 := hP.cell 0
                 have c1 := hP.cell 1
                 have c2 := hP.cell 2
                 have c3 := hP.cell 3
                 have c4 := hP.cell 4
                 have c5 := hP.cell 5
                 have c6 := hP.cell 6
                 have c7 := hP.cell 7
                 have c8 := hP.cell 8
                 have c9 := hP.cell 9
                 simp at c0 c1 c2 c3 c4 c5 c6 c7 c8 c9
                 go_wp2_with fail
                 refine (cP _).mono ?_
                 rintro e w' ⟨rfl, hb1⟩
                 replace hP := hP.keep hb1 hP.inside
                 replace hB := hB.trans (hb1.mono hB.size)
                 clear hb1
                 try clear c0 c1 c2 c3 c4 c5 c6 c7 c8 c9
                 have c0 := hP.cell 0
                 have c1 := hP.cell 1
                 have c2 := hP.cell 2
                 have c3 := hP.cell 3
                 have c4 := hP.cell 4
                 have c5 := hP.cell 5
                 have c6 := hP.cell 6
                 have c7 := hP.cell 7
                 have c8 := hP.cell 8
                 have c9 := hP.cell 9
                 simp at c0 c1 c2 c3 c4 c5 c6 c7 c8 c9
                 go_wp2_with fail
                 refine (cD _).mono ?_
                 rintro e w' ⟨rfl, hb1⟩
                 replace hP := hP.keep hb1 hP.inside
                 replace hB := hB.trans (hb1.mono hB.size)
                 clear hb1
                 try clear c0 c1 c2 c3 c4 c5 c6 c7 c8 c9
                 have c0 := hP.cell 0
                 have c1 := hP.cell 1
                 have c2 := hP.cell 2
                 have c3 := hP.cell 3
                 have c4 := hP.cell 4
                 have c5 := hP.cell 5
                 have c6 := hP.cell 6
                 have c7 := hP.cell 7
                 have c8 := hP.cell 8
                 have c9 := hP.cell 9
                 simp at c0 c1 c2 c3 c4 c5 c6 c7 c8 c9
                 go_wp2
                 go_ret
                 exact ⟨ret_int (by rw [e3.out, e6.out]; simp [ff]), hB⟩
               · have e1 := Lib.hid (h6.symm.trans (btw_hi s2))
                 clear h3 h6
                 go_enter Try.func48, Try.ntmps48
                 go_wp2_with fail
                 generalize (w.alloc (.cells #[.int .i64 fx, .int .i64 fy, .int .i64 tx, .int .i64 ty, .int .i64 pe, .int .i64 pl, .int .i64 de, .int .i64 dl, .int .i64 ld, .int .i64 sv] 35)) = w0 at *
                 refine (cF _).mono ?_
                 rintro e w' ⟨rfl, hb1⟩
                 replace hP := hP.keep hb1 hP.inside
                 replace hB := hB.trans (hb1.mono hB.size)
                 clear hb1
                 try clear c0 c1 c2 c3 c4 c5 c6 c7 c8 c9
                 have c0 := hP.cell 0
                 have c1 := hP.cell 1
                 have c2 := hP.cell 2
                 have c3 := hP.cell 3
                 have c4 := hP.cell 4
                 have c5 := hP.cell 5
                 have c6 := hP.cell 6
                 have c7 := hP.cell 7
                 have c8 := hP.cell 8
                 have c9 := hP.cell 9
                 simp at c0 c1 c2 c3 c4 c5 c6 c7 c8 c9
                 go_wp2_with fail
                 refine (cT _).mono ?_
                 rintro e w' ⟨rfl, hb1⟩
                 replace hP := hP.keep hb1 hP.inside
                 replace hB := hB.trans (hb1.mono hB.size)
                 clear hb1
                 try clear c0 c1 c2 c3 c4 c5 c6 c7 c8 c9
                 have c0 := hP.cell 0
                 have c1 := hP.cell 1
                 have c2 := hP.cell 2
                 have c3 := hP.cell 3
                 have c4 := hP.cell 4
                 have c5 := hP.cell 5
                 have c6 := hP.cell 6
                 have c7 := hP.cell 7
                 have c8 := hP.cell 8
                 have c9 := hP.cell 9
                 simp at c0 c1 c2 c3 c4 c5 c6 c7 c8 c9
                 go_wp2_with fail
                 refine (cP _).mono ?_
                 rintro e w' ⟨rfl, hb1⟩
                 replace hP := hP.keep hb1 hP.inside
                 replace hB := hB.trans (hb1.mono hB.size)
                 clear hb1
                 try clear c0 c1 c2 c3 c4 c5 c6 c7 c8 c9
                 have c0 := hP.cell 0
                 have c1 := hP.cell 1
                 have c2 := hP.cell 2
                 have c3 := hP.cell 3
                 have c4 := hP.cell 4
                 have c5 := hP.cell 5
                 have c6 := hP.cell 6
                 have c7 := hP.cell 7
                 have c8 := hP.cell 8
                 have c9 := hP.cell 9
                 simp at c0 c1 c2 c3 c4 c5 c6 c7 c8 c9
                 go_wp2_with fail
                 refine (cD _).mono ?_
                 rintro e w' ⟨rfl, hb1⟩
                 replace hP := hP.keep hb1 hP.inside
                 replace hB := hB.trans (hb1.mono hB.size)
                 clear hb1
                 try clear c0 c1 c2 c3 c4 c5 c6 c7 c8 c9
                 have c0 := hP.cell 0
                 have c1 := hP.cell 1
                 have c2 := hP.cell 2
                 have c3 := hP.cell 3
                 have c4 := hP.cell 4
                 have c5 := hP.cell 5
                 have c6 := hP.cell 6
                 have c7 := hP.cell 7
                 have c8 := hP.cell 8
                 have c9 := hP.cell 9
                 simp at c0 c1 c2 c3 c4 c5 c6 c7 c8 c9
                 go_wp2
                 go_ret
                 exact ⟨ret_int (by rw [e1.out]; simp [ff]), hB⟩
             · have e1 := Lib.hid (h6.symm.trans (btw_lo s1))
               clear h3 h6
               go_enter Try.func48, Try.ntmps48
               go_wp2_with fail
               generalize (w.alloc (.cells #[.int .i64 fx, .int .i64 fy, .int .i64 tx, .int .i64 ty, .int .i64 pe, .int .i64 pl, .int .i64 de, .int .i64 dl, .int .i64 ld, .int .i64 sv] 35)) = w0 at *
               refine (cF _).mono ?_
               rintro e w' ⟨rfl, hb1⟩
               replace hP := hP.keep hb1 hP.inside
               replace hB := hB.trans (hb1.mono hB.size)
               clear hb1
               try clear c0 c1 c2 c3 c4 c5 c6 c7 c8 c9
               have c0 := hP.cell 0
               have c1 := hP.cell 1
               have c2 := hP.cell 2
               have c3 := hP.cell 3
               have c4 := hP.cell 4
               have c5 := hP.cell 5
               have c6 := hP.cell 6
               have c7 := hP.cell 7
               have c8 := hP.cell 8
               have c9 := hP.cell 9
               simp at c0 c1 c2 c3 c4 c5 c6 c7 c8 c9
               go_wp2_with fail
               refine (cT _).mono ?_
               rintro e w' ⟨rfl, hb1⟩
               replace hP := hP.keep hb1 hP.inside
               replace hB := hB.trans (hb1.mono hB.size)
               clear hb1
               try clear c0 c1 c2 c3 c4 c5 c6 c7 c8 c9
               have c0 := hP.cell 0
               have c1 := hP.cell 1
               have c2 := hP.cell 2
               have c3 := hP.cell 3
               have c4 := hP.cell 4
               have c5 := hP.cell 5
               have c6 := hP.cell 6
               have c7 := hP.cell 7
               have c8 := hP.cell 8
               have c9 := hP.cell 9
               simp at c0 c1 c2 c3 c4 c5 c6 c7 c8 c9
               go_wp2_with fail
               refine (cP _).mono ?_
               rintro e w' ⟨rfl, hb1⟩
               replace hP := hP.keep hb1 hP.inside
               replace hB := hB.trans (hb1.mono hB.size)
               clear hb1
               try clear c0 c1 c2 c3 c4 c5 c6 c7 c8 c9
               have c0 := hP.cell 0
               have c1 := hP.cell 1
               have c2 := hP.cell 2
               have c3 := hP.cell 3
               have c4 := hP.cell 4
               have c5 := hP.cell 5
               have c6 := hP.cell 6
               have c7 := hP.cell 7
               have c8 := hP.cell 8
               have c9 := hP.cell 9
               simp at c0 c1 c2 c3 c4 c5 c6 c7 c8 c9
               go_wp2_with fail
               refine (cD _).mono ?_
               rintro e w' ⟨rfl, hb1⟩
               replace hP := hP.keep hb1 hP.inside
               replace hB := hB.trans (hb1.mono hB.size)
               clear hb1
               try clear c0 c1 c2 c3 c4 c5 c6 c7 c8 c9
               have c0 := hP.cell 0
               have c1 := hP.cell 1
               have c2 := hP.cell 2
               have c3 := hP.cell 3
               have c4 := hP.cell 4
               have c5 := hP.cell 5
               have c6 := hP.cell 6
               have c7 := hP.cell 7
               have c8 := hP.cell 8
               have c9 := hP.cell 9
               simp at c0 c1 c2 c3 c4 c5 c6 c7 c8 c9
               go_wp2
               go_ret
               exact ⟨ret_int (by rw [e1.out]; simp [ff]), hB⟩
           · have e1 := Lib.hid (h3.symm.trans (btw_hi l2))
             clear h3 h6
             go_enter Try.func48, Try.ntmps48
             go_wp2_with fail
             generalize (w.alloc (.cells #[.int .i64 fx, .int .i64 fy, .int .i64 tx, .int .i64 ty, .int .i64 pe, .int .i64 pl, .int .i64 de, .int .i64 dl, .int .i64 ld, .int .i64 sv] 35)) = w0 at *
             refine (cF _).mono ?_
             rintro e w' ⟨rfl, hb1⟩
             replace hP := hP.keep hb1 hP.inside
             replace hB := hB.trans (hb1.mono hB.size)
             clear hb1
             try clear c0 c1 c2 c3 c4 c5 c6 c7 c8 c9
             have c0 := hP.cell 0
             have c1 := hP.cell 1
             have c2 := hP.cell 2
             have c3 := hP.cell 3
             have c4 := hP.cell 4
             have c5 := hP.cell 5
             have c6 := hP.cell 6
             have c7 := hP.cell 7
             have c8 := hP.cell 8
             have c9 := hP.cell 9
             simp at c0 c1 c2 c3 c4 c5 c6 c7 c8 c9
             go_wp2_with fail
             refine (cT _).mono ?_
             rintro e w' ⟨rfl, hb1⟩
             replace hP := hP.keep hb1 hP.inside
             replace hB := hB.trans (hb1.mono hB.size)
             clear hb1
             try clear c0 c1 c2 c3 c4 c5 c6 c7 c8 c9
             have c0 := hP.cell 0
             have c1 := hP.cell 1
             have c2 := hP.cell 2
             have c3 := hP.cell 3
             have c4 := hP.cell 4
             have c5 := hP.cell 5
             have c6 := hP.cell 6
             have c7 := hP.cell 7
             have c8 := hP.cell 8
             have c9 := hP.cell 9
             simp at c0 c1 c2 c3 c4 c5 c6 c7 c8 c9
             go_wp2_with fail
             refine (cP _).mono ?_
             rintro e w' ⟨rfl, hb1⟩
             replace hP := hP.keep hb1 hP.inside
             replace hB := hB.trans (hb1.mono hB.size)
             clear hb1
             try clear c0 c1 c2 c3 c4 c5 c6 c7 c8 c9
             have c0 := hP.cell 0
             have c1 := hP.cell 1
             have c2 := hP.cell 2
             have c3 := hP.cell 3
             have c4 := hP.cell 4
             have c5 := hP.cell 5
             have c6 := hP.cell 6
             have c7 := hP.cell 7
             have c8 := hP.cell 8
             have c9 := hP.cell 9
             simp at c0 c1 c2 c3 c4 c5 c6 c7 c8 c9
             go_wp2_with fail
             refine (cD _).mono ?_
             rintro e w' ⟨rfl, hb1⟩
             replace hP := hP.keep hb1 hP.inside
             replace hB := hB.trans (hb1.mono hB.size)
             clear hb1
             try clear c0 c1 c2 c3 c4 c5 c6 c7 c8 c9
             have c0 := hP.cell 0
             have c1 := hP.cell 1
             have c2 := hP.cell 2
             have c3 := hP.cell 3
             have c4 := hP.cell 4
             have c5 := hP.cell 5
             have c6 := hP.cell 6
             have c7 := hP.cell 7
             have c8 := hP.cell 8
             have c9 := hP.cell 9
             simp at c0 c1 c2 c3 c4 c5 c6 c7 c8 c9
             go_wp2
             go_ret
             exact ⟨ret_int (by rw [e1.out]; simp [ff]), hB⟩
         · have e1 := Lib.hid (h3.symm.trans (btw_lo l1))
           clear h3 h6
           go_enter Try.func48, Try.ntmps48
           go_wp2_with fail
           generalize (w.alloc (.cells #[.int .i64 fx, .int .i64 fy, .int .i64 tx, .int .i64 ty, .int .i64 pe, .int .i64 pl, .int .i64 de, .int .i64 dl, .int .i64 ld, .int .i64 sv] 35)) = w0 at *
           refine (cF _).mono ?_
           rintro e w' ⟨rfl, hb1⟩
           replace hP := hP.keep hb1 hP.inside
           replace hB := hB.trans (hb1.mono hB.size)
           clear hb1
           try clear c0 c1 c2 c3 c4 c5 c6 c7 c8 c9
           have c0 := hP.cell 0
           have c1 := hP.cell 1
           have c2 := hP.cell 2
           have c3 := hP.cell 3
           have c4 := hP.cell 4
           have c5 := hP.cell 5
           have c6 := hP.cell 6
           have c7 := hP.cell 7
           have c8 := hP.cell 8
           have c9 := hP.cell 9
           simp at c0 c1 c2 c3 c4 c5 c6 c7 c8 c9
           go_wp2_with fail
           refine (cT _).mono ?_
           rintro e w' ⟨rfl, hb1⟩
           replace hP := hP.keep hb1 hP.inside
           replace hB := hB.trans (hb1.mono hB.size)
           clear hb1
           try clear c0 c1 c2 c3 c4 c5 c6 c7 c8 c9
           have c0 := hP.cell 0
           have c1 := hP.cell 1
           have c2 := hP.cell 2
           have c3 := hP.cell 3
           have c4 := hP.cell 4
           have c5 := hP.cell 5
           have c6 := hP.cell 6
           have c7 := hP.cell 7
           have c8 := hP.cell 8
           have c9 := hP.cell 9
           simp at c0 c1 c2 c3 c4 c5 c6 c7 c8 c9
           go_wp2_with fail
           refine (cP _).mono ?_
           rintro e w' ⟨rfl, hb1⟩
           replace hP := hP.keep hb1 hP.inside
           replace hB := hB.trans (hb1.mono hB.size)
           clear hb1
           try clear c0 c1 c2 c3 c4 c5 c6 c7 c8 c9
           have c0 := hP.cell 0
           have c1 := hP.cell 1
           have c2 := hP.cell 2
           have c3 := hP.cell 3
           have c4 := hP.cell 4
           have c5 := hP.cell 5
           have c6 := hP.cell 6
           have c7 := hP.cell 7
           have c8 := hP.cell 8
           have c9 := hP.cell 9
           simp at c0 c1 c2 c3 c4 c5 c6 c7 c8 c9
           go_wp2_with fail
           refine (cD _).mono ?_
           rintro e w' ⟨rfl, hb1⟩
           replace hP := hP.keep hb1 hP.inside
           replace hB := hB.trans (hb1.mono hB.size)
           clear hb1
           try clear c0 c1 c2 c3 c4 c5 c6 c7 c8 c9
           have c0 := hP.cell 0
           have c1 := hP.cell 1
           have c2 := hP.cell 2
           have c3 := hP.cell 3
           have c4 := hP.cell 4
           have c5 := hP.cell 5
           have c6 := hP.cell 6
           have c7 := hP.cell 7
           have c8 := hP.cell 8
           have c9 := hP.cell 9
           simp at c0 c1 c2 c3 c4 c5 c6 c7 c8 c9
           go_wp2
           go_ret
           exact ⟨ret_int (by rw [e1.out]; simp [ff]), hB⟩
end Go.Proofs.Ytpefdmkfmcjfnaa.Order

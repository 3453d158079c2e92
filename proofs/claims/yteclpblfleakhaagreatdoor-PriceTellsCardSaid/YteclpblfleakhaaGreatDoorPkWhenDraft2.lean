import Derived.Test.YteclpblfleakhaaGreatDoorPkWhenDraft
import Derived.Test.YteclpblfleakhaaGreatDoorPkWhenTrip

namespace Go.Proofs.YteclpblfleakhaaGreatDoor.When
open Go.RowKit Go.Sort Go.Proofs.YteclpblfleakhaaGreatDoor.Mem Go.Proofs.YteclpblfleakhaaGreatDoor.Route
set_option linter.unusedVariables false
def Rq.nr (q : Rq) : Prop := (500 ≤ q.fx ∧ q.fx < 520) ∧ (500 ≤ q.fy ∧ q.fy < 520) ∧ (500 ≤ q.tx ∧ q.tx < 520) ∧ (500 ≤ q.ty ∧ q.ty < 520) ∧ (1 ≤ q.ld ∧ q.ld ≤ 9) ∧ 0 ≤ q.sv ∧ q.sv ≤ 3
def Vh.nr (v : Vh) : Prop := (500 ≤ v.hx ∧ v.hx < 520) ∧ (500 ≤ v.hy ∧ v.hy < 520) ∧ 0 ≤ v.st ∧ v.st < 20
def Rq.dr (q : Rq) : Prop := q.chk = 0 ∧ q.pl ≤ 8000 ∧ q.dl ≤ 8000 ∧ q.nr
def Vh.dr (v : Vh) : Prop := v.chk = 0 ∧ v.en ≤ 2000 ∧ v.cp ≤ 1000 ∧ v.nr
theorem rq_ok {fx fy tx ty pe w de ld sv : Int} (h1 : 500 ≤ fx ∧ fx < 520) (h2 : 500 ≤ fy ∧ fy < 520) (h3 : 500 ≤ tx ∧ tx < 520) (h4 : 500 ≤ ty ∧ ty < 520) (h5 : 0 ≤ pe ∧ pe ≤ 3000) (h6 : 0 ≤ w ∧ w ≤ 400) (h7 : 0 ≤ de ∧ de ≤ 3000) (h8 : 1 ≤ ld ∧ ld ≤ 9) (h9 : 0 ≤ sv ∧ sv ≤ 3) :
 Rq.dr ⟨fx, fy, tx, ty, pe, pe + w, de, de + w + 30, ld, sv⟩ := by
 unfold Rq.dr Rq.chk Rq.nr
 rw [Order.chk_iff, Place.mayB_iff, Place.mayB_iff, Window.okB_iff, Window.okB_iff]
 dsimp only
 omega
theorem vh_ok {hx hy cp st en : Int} (h1 : 500 ≤ hx ∧ hx < 520) (h2 : 500 ≤ hy ∧ hy < 520) (h3 : 8 ≤ cp ∧ cp < 28) (h4 : 0 ≤ st ∧ st < 20) (h5 : 300 ≤ en ∧ en < 1100) : Vh.dr ⟨hx, hy, cp, st, en⟩ := by
 unfold Vh.dr Vh.chk Vh.nr
 rw [Order.veh_iff, Place.mayB_iff]
 dsimp only
 omega
theorem grown_refl (w : World) (r : Option Nat) : w.grownBy w r := ⟨rfl, rfl, rfl, Nat.le_refl _, fun _ _ _ => rfl⟩
set_option maxRecDepth 100000 in
set_option maxHeartbeats 4000000 in
theorem drequest_any (w : World) (g : Nat) (sv : Value) (bs : List Int) (a b k F : Int) (h : DraftAt w g sv bs a b k) (hk : 0 ≤ k ∧ k < 800000) (hF : 0 ≤ F ∧ F ≤ 1000) :
 Calls Tryz.prog 25 #[.pointer (some ⟨g, 0, none⟩), .int .i64 F] w fun e w' =>
  (∃ q : Rq, e = .returned (.agg #[.int .i64 q.fx, .int .i64 q.fy, .int .i64 q.tx, .int .i64 q.ty, .int .i64 q.pe, .int .i64 q.pl, .int .i64 q.de, .int .i64 q.dl, .int .i64 q.ld, .int .i64 q.sv]) ∧ q.dr) ∧ DraftAt w' g sv bs a b (k + 8) ∧ w.grownBy w' (some g) := by
 have hgi := h.box.inside
 have h1 := h.alloc (.cells #[.int .i64 0, .int .i64 0, .int .i64 0, .int .i64 0, .int .i64 0, .int .i64 0, .int .i64 0, .int .i64 0, .int .i64 0, .int .i64 0] 43)
 have hA := At.new w 43 #[.int .i64 0, .int .i64 0, .int .i64 0, .int .i64 0, .int .i64 0, .int .i64 0, .int .i64 0, .int .i64 0, .int .i64 0, .int .i64 0]
 have hg1 : w.grownBy (w.alloc (.cells #[.int .i64 0, .int .i64 0, .int .i64 0, .int .i64 0, .int .i64 0, .int .i64 0, .int .i64 0, .int .i64 0, .int .i64 0, .int .i64 0] 43)) (some g) := World.grownBy_alloc _ _ _
 obtain ⟨q, hq⟩ : ∃ q, q = w.heap.size := ⟨_, rfl⟩
 rw [← hq] at hA
 have hqg : g < q := by omega
 have hqw : w.heap.size ≤ q := by omega
 have hnb := h.nb
 clear h hgi
 rcases (show b % 4 = 0 ∨ b % 4 = 1 ∨ b % 4 = 2 ∨ b % 4 = 3 by omega) with hb4 | hb4 | hb4 | hb4
 · go_enter Tryz.func25, Tryz.ntmps25
   go_upto_region 1 with fail
   rw [← hq]
   obtain ⟨w1, hw1⟩ : ∃ w1, w.alloc (.cells #[.int .i64 0, .int .i64 0, .int .i64 0, .int .i64 0, .int .i64 0, .int .i64 0, .int .i64 0, .int .i64 0, .int .i64 0, .int .i64 0] 43) = w1 := ⟨_, rfl⟩
   rw [hw1] at h1 hA hg1 ⊢
   clear hw1 hq
   have p2 := h1.box.cell 2
   have hgi1 := h1.box.inside
   simp at p2
   have h1x := h1.alloc (.cells #[.int .i64 400, .int .i64 200, .int .i64 90, .int .i64 40] 3)
   have hAx := hA.alloc (.cells #[.int .i64 400, .int .i64 200, .int .i64 90, .int .i64 40] 3)
   have hg1x := hg1.trans (World.grownBy_alloc w1 (.cells #[.int .i64 400, .int .i64 200, .int .i64 90, .int .i64 40] 3) (some g))
   go_upto_region 2 with fail
   generalize w1.alloc (.cells #[.int .i64 400, .int .i64 200, .int .i64 90, .int .i64 40] 3) = w2 at *
   have hb4' := Lib.hid hb4
   clear h1 hA hg1 p2 hb4 hgi1
   obtain ⟨W0, hW0⟩ : ∃ W0 : Int, W0 = 400 := ⟨_, rfl⟩
   have hW1 : 0 ≤ W0 := by omega
   have hW2 : W0 ≤ 400 := by omega
   have hW3 : W0 ≤ 400 ∧ 1 ≤ W0 := by omega
   rw [← hW0]
   clear hW0
   go_wp2_with fail
   refine (next_any _ g sv bs a b k 40 h1x (by omega) (by omega)).mono ?_
   rintro e w3 ⟨⟨r1, rfl, hr1a, hr1b⟩, d3, g3⟩
   have A3 : At w3 q 43 #[.int .i64 0, .int .i64 0, .int .i64 0, .int .i64 0, .int .i64 0, .int .i64 0, .int .i64 0, .int .i64 0, .int .i64 0, .int .i64 0] := At.grownOff hAx g3 (by omega)
   have G3 := hg1x.trans g3
   clear h1x hAx hg1x g3
   go_wp2_with fail
   refine (next_any _ g sv bs a b (k + 1) 60 d3 (by omega) (by omega)).mono ?_
   rintro e w4 ⟨⟨r2, rfl, hr2a, hr2b⟩, d4, g4⟩
   rw [show (k + 1 + 1 : Int) = k + 2 by omega] at d4
   have A4 : At w4 q 43 #[.int .i64 0, .int .i64 0, .int .i64 0, .int .i64 0, .int .i64 0, .int .i64 0, .int .i64 0, .int .i64 0, .int .i64 0, .int .i64 0] := At.grownOff A3 g4 (by omega)
   have G4 := G3.trans g4
   clear d3 A3 G3 g4
   go_wp2_with fail
   refine (dplace_any _ g sv bs a b (k + 2) d4 (by omega)).mono ?_
   rintro e w5 ⟨⟨x1, x2, rfl, hxa, hxb⟩, d5, g5⟩
   rw [show (k + 2 + 2 : Int) = k + 4 by omega] at d5
   have A5 : At w5 q 43 #[.int .i64 0, .int .i64 0, .int .i64 0, .int .i64 0, .int .i64 0, .int .i64 0, .int .i64 0, .int .i64 0, .int .i64 0, .int .i64 0] := At.grownOff A4 g5 (by omega)
   have G5 := G4.trans g5
   clear d4 A4 G4 g5
   go_wp2_with fail
   refine (dplace_any _ g sv bs a b (k + 4) d5 (by omega)).mono ?_
   rintro e w6 ⟨⟨y1, y2, rfl, hya, hyb⟩, d6, g6⟩
   rw [show (k + 4 + 2 : Int) = k + 6 by omega] at d6
   have A6 : At w6 q 43 #[.int .i64 0, .int .i64 0, .int .i64 0, .int .i64 0, .int .i64 0, .int .i64 0, .int .i64 0, .int .i64 0, .int .i64 0, .int .i64 0] := At.grownOff A5 g6 (by omega)
   have G6 := G5.trans g6
   clear d5 A5 G5 g6
   go_wp2_with fail
   refine (next_any _ g sv bs a b (k + 6) 9 d6 (by omega) (by omega)).mono ?_
   rintro e w7 ⟨⟨r3, rfl, hr3a, hr3b⟩, d7, g7⟩
   rw [show (k + 6 + 1 : Int) = k + 7 by omega] at d7
   have A7 : At w7 q 43 #[.int .i64 0, .int .i64 0, .int .i64 0, .int .i64 0, .int .i64 0, .int .i64 0, .int .i64 0, .int .i64 0, .int .i64 0, .int .i64 0] := At.grownOff A6 g7 (by omega)
   have G7 := G6.trans g7
   clear d6 A6 G6 g7
   go_wp2_with fail
   refine (next_any _ g sv bs a b (k + 7) 4 d7 (by omega) (by omega)).mono ?_
   rintro e w8 ⟨⟨r4, rfl, hr4a, hr4b⟩, d8, g8⟩
   rw [show (k + 7 + 1 : Int) = k + 8 by omega] at d8
   have A8 : At w8 q 43 #[.int .i64 0, .int .i64 0, .int .i64 0, .int .i64 0, .int .i64 0, .int .i64 0, .int .i64 0, .int .i64 0, .int .i64 0, .int .i64 0] := At.grownOff A7 g8 (by omega)
   have G8 := G7.trans g8
   clear d7 A7 G7 g8
   have ff := A8.free
   have hlt := A8.inside
   have hEH := Lib.hid ((((((((((d8.far hqg 0 (.int .i64 x1)).far hqg 1 (.int .i64 x2)).far hqg 2 (.int .i64 y1)).far hqg 3 (.int .i64 y2)).far hqg 4 (.int .i64 (F + r1))).far hqg 5 (.int .i64 (F + r1 + W0))).far hqg 6 (.int .i64 (F + r1 + r2))).far hqg 7 (.int .i64 (F + r1 + r2 + W0 + 30))).far hqg 8 (.int .i64 (1 + r3))).far hqg 9 (.int .i64 r4))
   have hGH := Lib.hid (grown_far (grown_far (grown_far (grown_far (grown_far (grown_far (grown_far (grown_far (grown_far (grown_far G8 hqw 0 (.int .i64 x1)) hqw 1 (.int .i64 x2)) hqw 2 (.int .i64 y1)) hqw 3 (.int .i64 y2)) hqw 4 (.int .i64 (F + r1))) hqw 5 (.int .i64 (F + r1 + W0))) hqw 6 (.int .i64 (F + r1 + r2))) hqw 7 (.int .i64 (F + r1 + r2 + W0 + 30))) hqw 8 (.int .i64 (1 + r3))) hqw 9 (.int .i64 r4))
   have hRH := Lib.hid (put10 (y0 := (.int .i64 x1)) (y1 := (.int .i64 x2)) (y2 := (.int .i64 y1)) (y3 := (.int .i64 y2)) (y4 := (.int .i64 (F + r1))) (y5 := (.int .i64 (F + r1 + W0))) (y6 := (.int .i64 (F + r1 + r2))) (y7 := (.int .i64 (F + r1 + r2 + W0 + 30))) (y8 := (.int .i64 (1 + r3))) (y9 := (.int .i64 r4)) A8)
   have c0 := A8.cell 0
   have c1 := A8.cell 1
   have c2 := A8.cell 2
   have c3 := A8.cell 3
   have c4 := A8.cell 4
   have c5 := A8.cell 5
   have c6 := A8.cell 6
   have c7 := A8.cell 7
   have c8 := A8.cell 8
   have c9 := A8.cell 9
   simp at c0 c1 c2 c3 c4 c5 c6 c7 c8 c9
   clear d8 A8 G8
   go_wp2
   refine bodyPost_ret (res_rq rfl rfl (by exact hRH.out)) rfl ?_
   exact ⟨⟨⟨x1, x2, y1, y2, F + r1, F + r1 + W0, F + r1 + r2, F + r1 + r2 + W0 + 30, 1 + r3, r4⟩, rfl, rq_ok hxa hxb hya hyb (by omega) (by omega) (by omega) (by omega) (by omega)⟩, hEH.out, hGH.out⟩
 · go_enter Tryz.func25, Tryz.ntmps25
   go_upto_region 1 with fail
   rw [← hq]
   obtain ⟨w1, hw1⟩ : ∃ w1, w.alloc (.cells #[.int .i64 0, .int .i64 0, .int .i64 0, .int .i64 0, .int .i64 0, .int .i64 0, .int .i64 0, .int .i64 0, .int .i64 0, .int .i64 0] 43) = w1 := ⟨_, rfl⟩
   rw [hw1] at h1 hA hg1 ⊢
   clear hw1 hq
   have p2 := h1.box.cell 2
   have hgi1 := h1.box.inside
   simp at p2
   have h1x := h1.alloc (.cells #[.int .i64 400, .int .i64 200, .int .i64 90, .int .i64 40] 3)
   have hAx := hA.alloc (.cells #[.int .i64 400, .int .i64 200, .int .i64 90, .int .i64 40] 3)
   have hg1x := hg1.trans (World.grownBy_alloc w1 (.cells #[.int .i64 400, .int .i64 200, .int .i64 90, .int .i64 40] 3) (some g))
   go_upto_region 2 with fail
   generalize w1.alloc (.cells #[.int .i64 400, .int .i64 200, .int .i64 90, .int .i64 40] 3) = w2 at *
   have hb4' := Lib.hid hb4
   clear h1 hA hg1 p2 hb4 hgi1
   obtain ⟨W0, hW0⟩ : ∃ W0 : Int, W0 = 200 := ⟨_, rfl⟩
   have hW1 : 0 ≤ W0 := by omega
   have hW2 : W0 ≤ 400 := by omega
   have hW3 : W0 ≤ 200 ∧ 1 ≤ W0 := by omega
   rw [← hW0]
   clear hW0
   go_wp2_with fail
   refine (next_any _ g sv bs a b k 40 h1x (by omega) (by omega)).mono ?_
   rintro e w3 ⟨⟨r1, rfl, hr1a, hr1b⟩, d3, g3⟩
   have A3 : At w3 q 43 #[.int .i64 0, .int .i64 0, .int .i64 0, .int .i64 0, .int .i64 0, .int .i64 0, .int .i64 0, .int .i64 0, .int .i64 0, .int .i64 0] := At.grownOff hAx g3 (by omega)
   have G3 := hg1x.trans g3
   clear h1x hAx hg1x g3
   go_wp2_with fail
   refine (next_any _ g sv bs a b (k + 1) 60 d3 (by omega) (by omega)).mono ?_
   rintro e w4 ⟨⟨r2, rfl, hr2a, hr2b⟩, d4, g4⟩
   rw [show (k + 1 + 1 : Int) = k + 2 by omega] at d4
   have A4 : At w4 q 43 #[.int .i64 0, .int .i64 0, .int .i64 0, .int .i64 0, .int .i64 0, .int .i64 0, .int .i64 0, .int .i64 0, .int .i64 0, .int .i64 0] := At.grownOff A3 g4 (by omega)
   have G4 := G3.trans g4
   clear d3 A3 G3 g4
   go_wp2_with fail
   refine (dplace_any _ g sv bs a b (k + 2) d4 (by omega)).mono ?_
   rintro e w5 ⟨⟨x1, x2, rfl, hxa, hxb⟩, d5, g5⟩
   rw [show (k + 2 + 2 : Int) = k + 4 by omega] at d5
   have A5 : At w5 q 43 #[.int .i64 0, .int .i64 0, .int .i64 0, .int .i64 0, .int .i64 0, .int .i64 0, .int .i64 0, .int .i64 0, .int .i64 0, .int .i64 0] := At.grownOff A4 g5 (by omega)
   have G5 := G4.trans g5
   clear d4 A4 G4 g5
   go_wp2_with fail
   refine (dplace_any _ g sv bs a b (k + 4) d5 (by omega)).mono ?_
   rintro e w6 ⟨⟨y1, y2, rfl, hya, hyb⟩, d6, g6⟩
   rw [show (k + 4 + 2 : Int) = k + 6 by omega] at d6
   have A6 : At w6 q 43 #[.int .i64 0, .int .i64 0, .int .i64 0, .int .i64 0, .int .i64 0, .int .i64 0, .int .i64 0, .int .i64 0, .int .i64 0, .int .i64 0] := At.grownOff A5 g6 (by omega)
   have G6 := G5.trans g6
   clear d5 A5 G5 g6
   go_wp2_with fail
   refine (next_any _ g sv bs a b (k + 6) 9 d6 (by omega) (by omega)).mono ?_
   rintro e w7 ⟨⟨r3, rfl, hr3a, hr3b⟩, d7, g7⟩
   rw [show (k + 6 + 1 : Int) = k + 7 by omega] at d7
   have A7 : At w7 q 43 #[.int .i64 0, .int .i64 0, .int .i64 0, .int .i64 0, .int .i64 0, .int .i64 0, .int .i64 0, .int .i64 0, .int .i64 0, .int .i64 0] := At.grownOff A6 g7 (by omega)
   have G7 := G6.trans g7
   clear d6 A6 G6 g7
   go_wp2_with fail
   refine (next_any _ g sv bs a b (k + 7) 4 d7 (by omega) (by omega)).mono ?_
   rintro e w8 ⟨⟨r4, rfl, hr4a, hr4b⟩, d8, g8⟩
   rw [show (k + 7 + 1 : Int) = k + 8 by omega] at d8
   have A8 : At w8 q 43 #[.int .i64 0, .int .i64 0, .int .i64 0, .int .i64 0, .int .i64 0, .int .i64 0, .int .i64 0, .int .i64 0, .int .i64 0, .int .i64 0] := At.grownOff A7 g8 (by omega)
   have G8 := G7.trans g8
   clear d7 A7 G7 g8
   have ff := A8.free
   have hlt := A8.inside
   have hEH := Lib.hid ((((((((((d8.far hqg 0 (.int .i64 x1)).far hqg 1 (.int .i64 x2)).far hqg 2 (.int .i64 y1)).far hqg 3 (.int .i64 y2)).far hqg 4 (.int .i64 (F + r1))).far hqg 5 (.int .i64 (F + r1 + W0))).far hqg 6 (.int .i64 (F + r1 + r2))).far hqg 7 (.int .i64 (F + r1 + r2 + W0 + 30))).far hqg 8 (.int .i64 (1 + r3))).far hqg 9 (.int .i64 r4))
   have hGH := Lib.hid (grown_far (grown_far (grown_far (grown_far (grown_far (grown_far (grown_far (grown_far (grown_far (grown_far G8 hqw 0 (.int .i64 x1)) hqw 1 (.int .i64 x2)) hqw 2 (.int .i64 y1)) hqw 3 (.int .i64 y2)) hqw 4 (.int .i64 (F + r1))) hqw 5 (.int .i64 (F + r1 + W0))) hqw 6 (.int .i64 (F + r1 + r2))) hqw 7 (.int .i64 (F + r1 + r2 + W0 + 30))) hqw 8 (.int .i64 (1 + r3))) hqw 9 (.int .i64 r4))
   have hRH := Lib.hid (put10 (y0 := (.int .i64 x1)) (y1 := (.int .i64 x2)) (y2 := (.int .i64 y1)) (y3 := (.int .i64 y2)) (y4 := (.int .i64 (F + r1))) (y5 := (.int .i64 (F + r1 + W0))) (y6 := (.int .i64 (F + r1 + r2))) (y7 := (.int .i64 (F + r1 + r2 + W0 + 30))) (y8 := (.int .i64 (1 + r3))) (y9 := (.int .i64 r4)) A8)
   have c0 := A8.cell 0
   have c1 := A8.cell 1
   have c2 := A8.cell 2
   have c3 := A8.cell 3
   have c4 := A8.cell 4
   have c5 := A8.cell 5
   have c6 := A8.cell 6
   have c7 := A8.cell 7
   have c8 := A8.cell 8
   have c9 := A8.cell 9
   simp at c0 c1 c2 c3 c4 c5 c6 c7 c8 c9
   clear d8 A8 G8
   go_wp2
   refine bodyPost_ret (res_rq rfl rfl (by exact hRH.out)) rfl ?_
   exact ⟨⟨⟨x1, x2, y1, y2, F + r1, F + r1 + W0, F + r1 + r2, F + r1 + r2 + W0 + 30, 1 + r3, r4⟩, rfl, rq_ok hxa hxb hya hyb (by omega) (by omega) (by omega) (by omega) (by omega)⟩, hEH.out, hGH.out⟩
 · go_enter Tryz.func25, Tryz.ntmps25
   go_upto_region 1 with fail
   rw [← hq]
   obtain ⟨w1, hw1⟩ : ∃ w1, w.alloc (.cells #[.int .i64 0, .int .i64 0, .int .i64 0, .int .i64 0, .int .i64 0, .int .i64 0, .int .i64 0, .int .i64 0, .int .i64 0, .int .i64 0] 43) = w1 := ⟨_, rfl⟩
   rw [hw1] at h1 hA hg1 ⊢
   clear hw1 hq
   have p2 := h1.box.cell 2
   have hgi1 := h1.box.inside
   simp at p2
   have h1x := h1.alloc (.cells #[.int .i64 400, .int .i64 200, .int .i64 90, .int .i64 40] 3)
   have hAx := hA.alloc (.cells #[.int .i64 400, .int .i64 200, .int .i64 90, .int .i64 40] 3)
   have hg1x := hg1.trans (World.grownBy_alloc w1 (.cells #[.int .i64 400, .int .i64 200, .int .i64 90, .int .i64 40] 3) (some g))
   go_upto_region 2 with fail
   generalize w1.alloc (.cells #[.int .i64 400, .int .i64 200, .int .i64 90, .int .i64 40] 3) = w2 at *
   have hb4' := Lib.hid hb4
   clear h1 hA hg1 p2 hb4 hgi1
   obtain ⟨W0, hW0⟩ : ∃ W0 : Int, W0 = 90 := ⟨_, rfl⟩
   have hW1 : 0 ≤ W0 := by omega
   have hW2 : W0 ≤ 400 := by omega
   have hW3 : W0 ≤ 90 ∧ 1 ≤ W0 := by omega
   rw [← hW0]
   clear hW0
   go_wp2_with fail
   refine (next_any _ g sv bs a b k 40 h1x (by omega) (by omega)).mono ?_
   rintro e w3 ⟨⟨r1, rfl, hr1a, hr1b⟩, d3, g3⟩
   have A3 : At w3 q 43 #[.int .i64 0, .int .i64 0, .int .i64 0, .int .i64 0, .int .i64 0, .int .i64 0, .int .i64 0, .int .i64 0, .int .i64 0, .int .i64 0] := At.grownOff hAx g3 (by omega)
   have G3 := hg1x.trans g3
   clear h1x hAx hg1x g3
   go_wp2_with fail
   refine (next_any _ g sv bs a b (k + 1) 60 d3 (by omega) (by omega)).mono ?_
   rintro e w4 ⟨⟨r2, rfl, hr2a, hr2b⟩, d4, g4⟩
   rw [show (k + 1 + 1 : Int) = k + 2 by omega] at d4
   have A4 : At w4 q 43 #[.int .i64 0, .int .i64 0, .int .i64 0, .int .i64 0, .int .i64 0, .int .i64 0, .int .i64 0, .int .i64 0, .int .i64 0, .int .i64 0] := At.grownOff A3 g4 (by omega)
   have G4 := G3.trans g4
   clear d3 A3 G3 g4
   go_wp2_with fail
   refine (dplace_any _ g sv bs a b (k + 2) d4 (by omega)).mono ?_
   rintro e w5 ⟨⟨x1, x2, rfl, hxa, hxb⟩, d5, g5⟩
   rw [show (k + 2 + 2 : Int) = k + 4 by omega] at d5
   have A5 : At w5 q 43 #[.int .i64 0, .int .i64 0, .int .i64 0, .int .i64 0, .int .i64 0, .int .i64 0, .int .i64 0, .int .i64 0, .int .i64 0, .int .i64 0] := At.grownOff A4 g5 (by omega)
   have G5 := G4.trans g5
   clear d4 A4 G4 g5
   go_wp2_with fail
   refine (dplace_any _ g sv bs a b (k + 4) d5 (by omega)).mono ?_
   rintro e w6 ⟨⟨y1, y2, rfl, hya, hyb⟩, d6, g6⟩
   rw [show (k + 4 + 2 : Int) = k + 6 by omega] at d6
   have A6 : At w6 q 43 #[.int .i64 0, .int .i64 0, .int .i64 0, .int .i64 0, .int .i64 0, .int .i64 0, .int .i64 0, .int .i64 0, .int .i64 0, .int .i64 0] := At.grownOff A5 g6 (by omega)
   have G6 := G5.trans g6
   clear d5 A5 G5 g6
   go_wp2_with fail
   refine (next_any _ g sv bs a b (k + 6) 9 d6 (by omega) (by omega)).mono ?_
   rintro e w7 ⟨⟨r3, rfl, hr3a, hr3b⟩, d7, g7⟩
   rw [show (k + 6 + 1 : Int) = k + 7 by omega] at d7
   have A7 : At w7 q 43 #[.int .i64 0, .int .i64 0, .int .i64 0, .int .i64 0, .int .i64 0, .int .i64 0, .int .i64 0, .int .i64 0, .int .i64 0, .int .i64 0] := At.grownOff A6 g7 (by omega)
   have G7 := G6.trans g7
   clear d6 A6 G6 g7
   go_wp2_with fail
   refine (next_any _ g sv bs a b (k + 7) 4 d7 (by omega) (by omega)).mono ?_
   rintro e w8 ⟨⟨r4, rfl, hr4a, hr4b⟩, d8, g8⟩
   rw [show (k + 7 + 1 : Int) = k + 8 by omega] at d8
   have A8 : At w8 q 43 #[.int .i64 0, .int .i64 0, .int .i64 0, .int .i64 0, .int .i64 0, .int .i64 0, .int .i64 0, .int .i64 0, .int .i64 0, .int .i64 0] := At.grownOff A7 g8 (by omega)
   have G8 := G7.trans g8
   clear d7 A7 G7 g8
   have ff := A8.free
   have hlt := A8.inside
   have hEH := Lib.hid ((((((((((d8.far hqg 0 (.int .i64 x1)).far hqg 1 (.int .i64 x2)).far hqg 2 (.int .i64 y1)).far hqg 3 (.int .i64 y2)).far hqg 4 (.int .i64 (F + r1))).far hqg 5 (.int .i64 (F + r1 + W0))).far hqg 6 (.int .i64 (F + r1 + r2))).far hqg 7 (.int .i64 (F + r1 + r2 + W0 + 30))).far hqg 8 (.int .i64 (1 + r3))).far hqg 9 (.int .i64 r4))
   have hGH := Lib.hid (grown_far (grown_far (grown_far (grown_far (grown_far (grown_far (grown_far (grown_far (grown_far (grown_far G8 hqw 0 (.int .i64 x1)) hqw 1 (.int .i64 x2)) hqw 2 (.int .i64 y1)) hqw 3 (.int .i64 y2)) hqw 4 (.int .i64 (F + r1))) hqw 5 (.int .i64 (F + r1 + W0))) hqw 6 (.int .i64 (F + r1 + r2))) hqw 7 (.int .i64 (F + r1 + r2 + W0 + 30))) hqw 8 (.int .i64 (1 + r3))) hqw 9 (.int .i64 r4))
   have hRH := Lib.hid (put10 (y0 := (.int .i64 x1)) (y1 := (.int .i64 x2)) (y2 := (.int .i64 y1)) (y3 := (.int .i64 y2)) (y4 := (.int .i64 (F + r1))) (y5 := (.int .i64 (F + r1 + W0))) (y6 := (.int .i64 (F + r1 + r2))) (y7 := (.int .i64 (F + r1 + r2 + W0 + 30))) (y8 := (.int .i64 (1 + r3))) (y9 := (.int .i64 r4)) A8)
   have c0 := A8.cell 0
   have c1 := A8.cell 1
   have c2 := A8.cell 2
   have c3 := A8.cell 3
   have c4 := A8.cell 4
   have c5 := A8.cell 5
   have c6 := A8.cell 6
   have c7 := A8.cell 7
   have c8 := A8.cell 8
   have c9 := A8.cell 9
   simp at c0 c1 c2 c3 c4 c5 c6 c7 c8 c9
   clear d8 A8 G8
   go_wp2
   refine bodyPost_ret (res_rq rfl rfl (by exact hRH.out)) rfl ?_
   exact ⟨⟨⟨x1, x2, y1, y2, F + r1, F + r1 + W0, F + r1 + r2, F + r1 + r2 + W0 + 30, 1 + r3, r4⟩, rfl, rq_ok hxa hxb hya hyb (by omega) (by omega) (by omega) (by omega) (by omega)⟩, hEH.out, hGH.out⟩
 · go_enter Tryz.func25, Tryz.ntmps25
   go_upto_region 1 with fail
   rw [← hq]
   obtain ⟨w1, hw1⟩ : ∃ w1, w.alloc (.cells #[.int .i64 0, .int .i64 0, .int .i64 0, .int .i64 0, .int .i64 0, .int .i64 0, .int .i64 0, .int .i64 0, .int .i64 0, .int .i64 0] 43) = w1 := ⟨_, rfl⟩
   rw [hw1] at h1 hA hg1 ⊢
   clear hw1 hq
   have p2 := h1.box.cell 2
   have hgi1 := h1.box.inside
   simp at p2
   have h1x := h1.alloc (.cells #[.int .i64 400, .int .i64 200, .int .i64 90, .int .i64 40] 3)
   have hAx := hA.alloc (.cells #[.int .i64 400, .int .i64 200, .int .i64 90, .int .i64 40] 3)
   have hg1x := hg1.trans (World.grownBy_alloc w1 (.cells #[.int .i64 400, .int .i64 200, .int .i64 90, .int .i64 40] 3) (some g))
   go_upto_region 2 with fail
   generalize w1.alloc (.cells #[.int .i64 400, .int .i64 200, .int .i64 90, .int .i64 40] 3) = w2 at *
   have hb4' := Lib.hid hb4
   clear h1 hA hg1 p2 hb4 hgi1
   obtain ⟨W0, hW0⟩ : ∃ W0 : Int, W0 = 40 := ⟨_, rfl⟩
   have hW1 : 0 ≤ W0 := by omega
   have hW2 : W0 ≤ 400 := by omega
   have hW3 : W0 ≤ 40 ∧ 1 ≤ W0 := by omega
   rw [← hW0]
   clear hW0
   go_wp2_with fail
   refine (next_any _ g sv bs a b k W0 h1x (by omega) (by omega)).mono ?_
   rintro e w3 ⟨⟨r1, rfl, hr1a, hr1b⟩, d3, g3⟩
   have A3 : At w3 q 43 #[.int .i64 0, .int .i64 0, .int .i64 0, .int .i64 0, .int .i64 0, .int .i64 0, .int .i64 0, .int .i64 0, .int .i64 0, .int .i64 0] := At.grownOff hAx g3 (by omega)
   have G3 := hg1x.trans g3
   clear h1x hAx hg1x g3
   go_wp2_with fail
   refine (next_any _ g sv bs a b (k + 1) 60 d3 (by omega) (by omega)).mono ?_
   rintro e w4 ⟨⟨r2, rfl, hr2a, hr2b⟩, d4, g4⟩
   rw [show (k + 1 + 1 : Int) = k + 2 by omega] at d4
   have A4 : At w4 q 43 #[.int .i64 0, .int .i64 0, .int .i64 0, .int .i64 0, .int .i64 0, .int .i64 0, .int .i64 0, .int .i64 0, .int .i64 0, .int .i64 0] := At.grownOff A3 g4 (by omega)
   have G4 := G3.trans g4
   clear d3 A3 G3 g4
   go_wp2_with fail
   refine (dplace_any _ g sv bs a b (k + 2) d4 (by omega)).mono ?_
   rintro e w5 ⟨⟨x1, x2, rfl, hxa, hxb⟩, d5, g5⟩
   rw [show (k + 2 + 2 : Int) = k + 4 by omega] at d5
   have A5 : At w5 q 43 #[.int .i64 0, .int .i64 0, .int .i64 0, .int .i64 0, .int .i64 0, .int .i64 0, .int .i64 0, .int .i64 0, .int .i64 0, .int .i64 0] := At.grownOff A4 g5 (by omega)
   have G5 := G4.trans g5
   clear d4 A4 G4 g5
   go_wp2_with fail
   refine (dplace_any _ g sv bs a b (k + 4) d5 (by omega)).mono ?_
   rintro e w6 ⟨⟨y1, y2, rfl, hya, hyb⟩, d6, g6⟩
   rw [show (k + 4 + 2 : Int) = k + 6 by omega] at d6
   have A6 : At w6 q 43 #[.int .i64 0, .int .i64 0, .int .i64 0, .int .i64 0, .int .i64 0, .int .i64 0, .int .i64 0, .int .i64 0, .int .i64 0, .int .i64 0] := At.grownOff A5 g6 (by omega)
   have G6 := G5.trans g6
   clear d5 A5 G5 g6
   go_wp2_with fail
   refine (next_any _ g sv bs a b (k + 6) 9 d6 (by omega) (by omega)).mono ?_
   rintro e w7 ⟨⟨r3, rfl, hr3a, hr3b⟩, d7, g7⟩
   rw [show (k + 6 + 1 : Int) = k + 7 by omega] at d7
   have A7 : At w7 q 43 #[.int .i64 0, .int .i64 0, .int .i64 0, .int .i64 0, .int .i64 0, .int .i64 0, .int .i64 0, .int .i64 0, .int .i64 0, .int .i64 0] := At.grownOff A6 g7 (by omega)
   have G7 := G6.trans g7
   clear d6 A6 G6 g7
   go_wp2_with fail
   refine (next_any _ g sv bs a b (k + 7) 4 d7 (by omega) (by omega)).mono ?_
   rintro e w8 ⟨⟨r4, rfl, hr4a, hr4b⟩, d8, g8⟩
   rw [show (k + 7 + 1 : Int) = k + 8 by omega] at d8
   have A8 : At w8 q 43 #[.int .i64 0, .int .i64 0, .int .i64 0, .int .i64 0, .int .i64 0, .int .i64 0, .int .i64 0, .int .i64 0, .int .i64 0, .int .i64 0] := At.grownOff A7 g8 (by omega)
   have G8 := G7.trans g8
   clear d7 A7 G7 g8
   have ff := A8.free
   have hlt := A8.inside
   have hEH := Lib.hid ((((((((((d8.far hqg 0 (.int .i64 x1)).far hqg 1 (.int .i64 x2)).far hqg 2 (.int .i64 y1)).far hqg 3 (.int .i64 y2)).far hqg 4 (.int .i64 (F + r1))).far hqg 5 (.int .i64 (F + r1 + W0))).far hqg 6 (.int .i64 (F + r1 + r2))).far hqg 7 (.int .i64 (F + r1 + r2 + W0 + 30))).far hqg 8 (.int .i64 (1 + r3))).far hqg 9 (.int .i64 r4))
   have hGH := Lib.hid (grown_far (grown_far (grown_far (grown_far (grown_far (grown_far (grown_far (grown_far (grown_far (grown_far G8 hqw 0 (.int .i64 x1)) hqw 1 (.int .i64 x2)) hqw 2 (.int .i64 y1)) hqw 3 (.int .i64 y2)) hqw 4 (.int .i64 (F + r1))) hqw 5 (.int .i64 (F + r1 + W0))) hqw 6 (.int .i64 (F + r1 + r2))) hqw 7 (.int .i64 (F + r1 + r2 + W0 + 30))) hqw 8 (.int .i64 (1 + r3))) hqw 9 (.int .i64 r4))
   have hRH := Lib.hid (put10 (y0 := (.int .i64 x1)) (y1 := (.int .i64 x2)) (y2 := (.int .i64 y1)) (y3 := (.int .i64 y2)) (y4 := (.int .i64 (F + r1))) (y5 := (.int .i64 (F + r1 + W0))) (y6 := (.int .i64 (F + r1 + r2))) (y7 := (.int .i64 (F + r1 + r2 + W0 + 30))) (y8 := (.int .i64 (1 + r3))) (y9 := (.int .i64 r4)) A8)
   have c0 := A8.cell 0
   have c1 := A8.cell 1
   have c2 := A8.cell 2
   have c3 := A8.cell 3
   have c4 := A8.cell 4
   have c5 := A8.cell 5
   have c6 := A8.cell 6
   have c7 := A8.cell 7
   have c8 := A8.cell 8
   have c9 := A8.cell 9
   simp at c0 c1 c2 c3 c4 c5 c6 c7 c8 c9
   clear d8 A8 G8
   go_wp2
   refine bodyPost_ret (res_rq rfl rfl (by exact hRH.out)) rfl ?_
   exact ⟨⟨⟨x1, x2, y1, y2, F + r1, F + r1 + W0, F + r1 + r2, F + r1 + r2 + W0 + 30, 1 + r3, r4⟩, rfl, rq_ok hxa hxb hya hyb (by omega) (by omega) (by omega) (by omega) (by omega)⟩, hEH.out, hGH.out⟩
set_option maxRecDepth 100000 in
set_option maxHeartbeats 4000000 in
theorem dvehicle_any (w : World) (g : Nat) (sv : Value) (bs : List Int) (a b k : Int) (h : DraftAt w g sv bs a b k) (hk : 0 ≤ k ∧ k < 800000) :
 Calls Tryz.prog 14 #[.pointer (some ⟨g, 0, none⟩)] w fun e w' =>
  (∃ v : Vh, e = .returned (.agg #[.int .i64 v.hx, .int .i64 v.hy, .int .i64 v.cp, .int .i64 v.st, .int .i64 v.en]) ∧ v.dr) ∧ DraftAt w' g sv bs a b (k + 5) ∧ w.grownBy w' (some g) := by
 have hgi := h.box.inside
 have h1 := h.alloc (.cells #[.int .i64 0, .int .i64 0, .int .i64 0, .int .i64 0, .int .i64 0] 32)
 have hA := At.new w 32 #[.int .i64 0, .int .i64 0, .int .i64 0, .int .i64 0, .int .i64 0]
 have hg1 : w.grownBy (w.alloc (.cells #[.int .i64 0, .int .i64 0, .int .i64 0, .int .i64 0, .int .i64 0] 32)) (some g) := World.grownBy_alloc _ _ _
 obtain ⟨q, hq⟩ : ∃ q, q = w.heap.size := ⟨_, rfl⟩
 rw [← hq] at hA
 have hqg : g < q := by omega
 have hqw : w.heap.size ≤ q := by omega
 clear h hgi
 go_enter Tryz.func14, Tryz.ntmps14
 go_upto_region 1 with fail
 rw [← hq]
 obtain ⟨w1, hw1⟩ : ∃ w1, w.alloc (.cells #[.int .i64 0, .int .i64 0, .int .i64 0, .int .i64 0, .int .i64 0] 32) = w1 := ⟨_, rfl⟩
 rw [hw1] at h1 hA hg1 ⊢
 clear hw1 hq
 go_wp2_with fail
 refine (dplace_any _ g sv bs a b k h1 (by omega)).mono ?_
 rintro e w2 ⟨⟨x1, x2, rfl, hxa, hxb⟩, d2, g2⟩
 have A2 : At w2 q 32 #[.int .i64 0, .int .i64 0, .int .i64 0, .int .i64 0, .int .i64 0] := At.grownOff hA g2 (by omega)
 have G2 := hg1.trans g2
 clear h1 hA hg1 g2
 go_wp2_with fail
 refine (next_any _ g sv bs a b (k + 2) 20 d2 (by omega) (by omega)).mono ?_
 rintro e w3 ⟨⟨r1, rfl, hr1a, hr1b⟩, d3, g3⟩
 rw [show (k + 2 + 1 : Int) = k + 3 by omega] at d3
 have A3 : At w3 q 32 #[.int .i64 0, .int .i64 0, .int .i64 0, .int .i64 0, .int .i64 0] := At.grownOff A2 g3 (by omega)
 have G3 := G2.trans g3
 clear d2 A2 G2 g3
 go_wp2_with fail
 refine (next_any _ g sv bs a b (k + 3) 20 d3 (by omega) (by omega)).mono ?_
 rintro e w4 ⟨⟨r2, rfl, hr2a, hr2b⟩, d4, g4⟩
 rw [show (k + 3 + 1 : Int) = k + 4 by omega] at d4
 have A4 : At w4 q 32 #[.int .i64 0, .int .i64 0, .int .i64 0, .int .i64 0, .int .i64 0] := At.grownOff A3 g4 (by omega)
 have G4 := G3.trans g4
 clear d3 A3 G3 g4
 go_wp2_with fail
 refine (next_any _ g sv bs a b (k + 4) 100 d4 (by omega) (by omega)).mono ?_
 rintro e w5 ⟨⟨r3, rfl, hr3a, hr3b⟩, d5, g5⟩
 rw [show (k + 4 + 1 : Int) = k + 5 by omega] at d5
 have A5 : At w5 q 32 #[.int .i64 0, .int .i64 0, .int .i64 0, .int .i64 0, .int .i64 0] := At.grownOff A4 g5 (by omega)
 have G5 := G4.trans g5
 clear d4 A4 G4 g5
 have ff := A5.free
 have hlt := A5.inside
 have hEH := Lib.hid (((((d5.far hqg 0 (.int .i64 x1)).far hqg 1 (.int .i64 x2)).far hqg 2 (.int .i64 (8 + r1))).far hqg 3 (.int .i64 r2)).far hqg 4 (.int .i64 (300 + 8 * r3)))
 have hGH := Lib.hid (grown_far (grown_far (grown_far (grown_far (grown_far G5 hqw 0 (.int .i64 x1)) hqw 1 (.int .i64 x2)) hqw 2 (.int .i64 (8 + r1))) hqw 3 (.int .i64 r2)) hqw 4 (.int .i64 (300 + 8 * r3)))
 have hRH := Lib.hid (put5 (y0 := .int .i64 x1) (y1 := .int .i64 x2) (y2 := .int .i64 (8 + r1)) (y3 := .int .i64 r2) (y4 := .int .i64 (300 + 8 * r3)) A5)
 have c0 := A5.cell 0
 have c1 := A5.cell 1
 have c2 := A5.cell 2
 have c3 := A5.cell 3
 have c4 := A5.cell 4
 simp at c0 c1 c2 c3 c4
 clear d5 A5 G5
 go_wp2
 refine bodyPost_ret (res_vh rfl rfl (by exact hRH.out)) rfl ?_
 exact ⟨⟨⟨x1, x2, 8 + r1, r2, 300 + 8 * r3⟩, rfl, vh_ok hxa hxb (by omega) (by omega) (by omega)⟩, hEH.out, hGH.out⟩
end Go.Proofs.YteclpblfleakhaaGreatDoor.When

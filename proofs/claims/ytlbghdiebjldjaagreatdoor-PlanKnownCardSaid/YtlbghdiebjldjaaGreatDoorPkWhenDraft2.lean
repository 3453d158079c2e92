import Derived.Test.YtlbghdiebjldjaaGreatDoorPkWhenDraft
import Derived.Test.YtlbghdiebjldjaaGreatDoorPkUp2

namespace Go.Proofs.YtlbghdiebjldjaaGreatDoor.When
open Go.RowKit Go.Sort Go.Proofs.YtlbghdiebjldjaaGreatDoor.Mem Go.Proofs.YtlbghdiebjldjaaGreatDoor.Route
set_option linter.unusedVariables false
def Rq.nr (q : Rq) : Prop := (500 ≤ q.fx ∧ q.fx < 520) ∧ (500 ≤ q.fy ∧ q.fy < 520) ∧ (500 ≤ q.tx ∧ q.tx < 520) ∧ (500 ≤ q.ty ∧ q.ty < 520) ∧ (1 ≤ q.ld ∧ q.ld ≤ 9) ∧ 0 ≤ q.sv ∧ q.sv ≤ 3
def Vh.nr (v : Vh) : Prop := (500 ≤ v.hx ∧ v.hx < 520) ∧ (500 ≤ v.hy ∧ v.hy < 520) ∧ 0 ≤ v.st ∧ v.st < 20
def Rq.dr (q : Rq) : Prop := q.chk = 0 ∧ q.pl ≤ 8000 ∧ q.dl ≤ 8000 ∧ q.nr
def Vh.dr (v : Vh) : Prop := v.chk = 0 ∧ v.en ≤ 2000 ∧ v.cp ≤ 1000 ∧ v.nr
theorem rq_ok {fx fy tx ty pe w de ld sv : Int} (h1 : 500 ≤ fx ∧ fx < 520) (h2 : 500 ≤ fy ∧ fy < 520) (h3 : 500 ≤ tx ∧ tx < 520) (h4 : 500 ≤ ty ∧ ty < 520) (h5 : 0 ≤ pe ∧ pe ≤ 3000) (h6 : 0 ≤ w ∧ w ≤ 400) (h7 : 0 ≤ de ∧ de ≤ 3000) (h8 : 1 ≤ ld ∧ ld ≤ 9) (h9 : 0 ≤ sv ∧ sv ≤ 3) :
 Rq.dr ⟨fx, fy, tx, ty, pe, pe + w, de, de + w + 30, ld, sv⟩ := by
 unfold Rq.dr Rq.chk Rq.nr
 rw [Order.chk_iff, Place.mayB_iff, Place.mayB_iff, Window.okB_iff, Window.okB_iff]
 dsimp only
 omega
theorem vh_ok {hx hy cp st en : Int} (h1 : 500 ≤ hx ∧ hx < 520) (h2 : 500 ≤ hy ∧ hy < 520) (h3 : 8 ≤ cp ∧ cp < 28) (h4 : 0 ≤ st ∧ st < 20) (h5 : 300 ≤ en ∧ en < 1100) : Vh.dr ⟨hx, hy, cp, st, en⟩ := by
 unfold Vh.dr Vh.chk Vh.nr
 rw [Order.veh_iff, Place.mayB_iff]
 dsimp only
 omega
theorem grown_refl (w : World) (r : Option Nat) : w.grownBy w r := ⟨rfl, rfl, rfl, Nat.le_refl _, fun _ _ _ => rfl⟩
set_option maxRecDepth 100000 in
set_option maxHeartbeats 4000000 in
theorem drequest_any (w : World) (g : Nat) (sv : Value) (bs : List Int) (a b k F : Int) (h : DraftAt w g sv bs a b k) (hk : 0 ≤ k ∧ k < 800000) (hF : 0 ≤ F ∧ F ≤ 1000) :
 Calls Tryz.prog 59 #[.pointer (some ⟨g, 0, none⟩), .int .i64 F] w fun e w' =>
  (∃ q : Rq, e = .returned (.agg #[.int .i64 q.fx, .int .i64 q.fy, .int .i64 q.tx, .int .i64 q.ty, .int .i64 q.pe, .int .i64 q.pl, .int .i64 q.de, .int .i64 q.dl, .int .i64 q.ld, .int .i64 q.sv]) ∧ q.dr) ∧ DraftAt w' g sv bs a b (k + 8) ∧ w.grownBy w' (some g) := by
 have hgi := h.box.inside
 have h1 := h.alloc (.cells #[.int .i64 0, .int .i64 0, .int .i64 0, .int .i64 0, .int .i64 0, .int .i64 0, .int .i64 0, .int .i64 0, .int .i64 0, .int .i64 0] 72)
 have hA := At.new w 72 #[.int .i64 0, .int .i64 0, .int .i64 0, .int .i64 0, .int .i64 0, .int .i64 0, .int .i64 0, .int .i64 0, .int .i64 0, .int .i64 0]
 have hg1 : w.grownBy (w.alloc (.cells #[.int .i64 0, .int .i64 0, .int .i64 0, .int .i64 0, .int .i64 0, .int .i64 0, .int .i64 0, .int .i64 0, .int .i64 0, .int .i64 0] 72)) (some g) := World.grownBy_alloc _ _ _
 obtain ⟨q, hq⟩ : ∃ q, q = w.heap.size := ⟨_, rfl⟩
 rw [← hq] at hA
 have hqg : g < q := by omega
 have hqw : w.heap.size ≤ q := by omega
 have hnb := h.nb
 clear h hgi
 rcases (show b % 4 = 0 ∨ b % 4 = 1 ∨ b % 4 = 2 ∨ b % 4 = 3 by omega) with hb4 | hb4 | hb4 | hb4
 · go_enter Tryz.func59, Tryz.ntmps59
   go_upto_region 1 with fail
   rw [← hq]
   obtain ⟨w1, hw1⟩ : ∃ w1, w.alloc (.cells #[.int .i64 0, .int .i64 0, .int .i64 0, .int .i64 0, .int .i64 0, .int .i64 0, .int .i64 0, .int .i64 0, .int .i64 0, .int .i64 0] 72) = w1 := ⟨_, rfl⟩
   rw [hw1] at h1 hA hg1 ⊢
   clear hw1 hq
   have p2 := h1.box.cell 2
   have hgi1 := h1.box.inside
   simp at p2
   have h1x := h1.alloc (.cells #[.int .i64 400, .int .i64 200, .int .i64 90, .int .i64 40] 3)
   have hAx := hA.alloc (.cells #[.int .i64 400, .int .i64 200, .int .i64 90, .int .i64 40] 3)
   have hg1x := hg1.trans (World.grownBy_alloc w1 (.cells #[.int .i64 400, .int .i64 200, .int .i64 90, .int .i64 40] 3) (some g))
   go_upto_region 2 with fail
   generalize w1.alloc (.cells #[.int .i64 400, .int .i64 200, .int .i64 90, .int .i64 40] 3) = w2 at *
   have hb4' := Lib.hid hb4
   clear h1 hA hg1 p2 hb4 hgi1
   obtain ⟨W0, hW0⟩ : ∃ W0 : Int, W0 = 400 := ⟨_, rfl⟩
   have hW1 : 0 ≤ W0 := by omega
   have hW2 : W0 ≤ 400 := by omega
   have hW3 : W0 ≤ 400 ∧ 1 ≤ W0 := by omega
   rw [← hW0]
   clear hW0
   go_wp2_with fail
   refine (next_any _ g sv bs a b k 40 h1x (by omega) (by omega)).mono ?_
   rintro e w3 ⟨⟨r1, rfl, hr1a, hr1b⟩, d3, g3⟩
   have A3 : At w3 q 72 #[.int .i64 0, .int .i64 0, .int .i64 0, .int .i64 0, .int .i64 0, .int .i64 0, .int .i64 0, .int .i64 0, .int .i64 0, .int .i64 0] := At.grownOff hAx g3 (by omega)
   have G3 := hg1x.trans g3
   clear h1x hAx hg1x g3
   go_wp2_with fail
   refine (next_any _ g sv bs a b (k + 1) 60 d3 (by omega) (by omega)).mono ?_
   rintro e w4 ⟨⟨r2, rfl, hr2a, hr2b⟩, d4, g4⟩
   rw [show (k + 1 + 1 : Int) = k + 2 by omega] at d4
   have A4 : At w4 q 72 #[.int .i64 0, .int .i64 0, .int .i64 0, .int .i64 0, .int .i64 0, .int .i64 0, .int .i64 0, .int .i64 0, .int .i64 0, .int .i64 0] := At.grownOff A3 g4 (by omega)
   have G4 := G3.trans g4
   clear d3 A3 G3 g4
   go_wp2_with fail
   refine (dplace_any _ g sv bs a b (k + 2) d4 (by omega)).mono ?_
   rintro e w5 ⟨⟨x1, x2, rfl, hxa, hxb⟩, d5, g5⟩
   rw [show (k + 2 + 2 : Int) = k + 4 by omega] at d5
   have A5 : At w5 q 72 #[.int .i64 0, .int .i64 0, .int .i64 0, .int .i64 0, .int .i64 0, .int .i64 0, .int .i64 0, .int .i64 0, .int .i64 0, .int .i64 0] := At.grownOff A4 g5 (by omega)
   have G5 := G4.trans g5
   clear d4 A4 G4 g5
   go_wp2_with fail
   refine (dplace_any _ g sv bs a b (k + 4) d5 (by omega)).mono ?_
   rintro e w6 ⟨⟨y1, y2, rfl, hya, hyb⟩, d6, g6⟩
   rw [show (k + 4 + 2 : Int) = k + 6 by omega] at d6
   have A6 : At w6 q 72 #[.int .i64 0, .int .i64 0, .int .i64 0, .int .i64 0, .int .i64 0, .int .i64 0, .int .i64 0, .int .i64 0, .int .i64 0, .int .i64 0] := At.grownOff A5 g6 (by omega)
   have G6 := G5.trans g6
   clear d5 A5 G5 g6
   go_wp2_with fail
   refine (next_any _ g sv bs a b (k + 6) 9 d6 (by omega) (by omega)).mono ?_
   rintro e w7 ⟨⟨r3, rfl, hr3a, hr3b⟩, d7, g7⟩
   rw [show (k + 6 + 1 : Int) = k + 7 by omega] at d7
   have A7 : At w7 q 72 #[.int .i64 0, .int .i64 0, .int .i64 0, .int .i64 0, .int .i64 0, .int .i64 0, .int .i64 0, .int .i64 0, .int .i64 0, .int .i64 0] := At.grownOff A6 g7 (by omega)
   have G7 := G6.trans g7
   clear d6 A6 G6 g7
   go_wp2_with fail
   refine (next_any _ g sv bs a b (k + 7) 4 d7 (by omega) (by omega)).mono ?_
   rintro e w8 ⟨⟨r4, rfl, hr4a, hr4b⟩, d8, g8⟩
   rw [show (k + 7 + 1 : Int) = k + 8 by omega] at d8
   have A8 : At w8 q 72 #[.int .i64 0, .int .i64 0, .int .i64 0, .int .i64 0, .int .i64 0, .int .i64 0, .int .i64 0, .int .i64 0, .int .i64 0, .int .i64 0] := At.grownOff A7 g8 (by omega)
   have G8 := G7.trans g8
   clear d7 A7 G7 g8
   have ff := A8.free
   have hlt := A8.inside
   have hEH := Lib.hid ((((((((((d8.far hqg 0 (.int .i64 x1)).far hqg 1 (.int .i64 x2)).far hqg 2 (.int .i64 y1)).far hqg 3 (.int .i64 y2)).far hqg 4 (.int .i64 (F + r1))).far hqg 5 (.int .i64 (F + r1 + W0))).far hqg 6 (.int .i64 (F + r1 + r2))).far hqg 7 (.int .i64 (F + r1 + r2 + W0 + 30))).far hqg 8 (.int .i64 (1 + r3))).far hqg 9 (.int .i64 r4))
   have hGH := Lib.hid (grown_far (grown_far (grown_far (grown_far (grown_far (grown_far (grown_far (grown_far (grown_far (grown_far G8 hqw 0 (.int .i64 x1)) hqw 1 (.int .i64 x2)) hqw 2 (.int .i64 y1)) hqw 3 (.int .i64 y2)) hqw 4 (.int .i64 (F + r1))) hqw 5 (.int .i64 (F + r1 + W0))) hqw 6 (.int .i64 (F + r1 + r2))) hqw 7 (.int .i64 (F + r1 + r2 + W0 + 30))) hqw 8 (.int .i64 (1 + r3))) hqw 9 (.int .i64 r4))
   have hRH := Lib.hid (put10 (y0 := (.int .i64 x1)) (y1 := (.int .i64 x2)) (y2 := (.int .i64 y1)) (y3 := (.int .i64 y2)) (y4 := (.int .i64 (F + r1))) (y5 := (.int .i64 (F + r1 + W0))) (y6 := (.int .i64 (F + r1 + r2))) (y7 := (.int .i64 (F + r1 + r2 + W0 + 30))) (y8 := (.int .i64 (1 + r3))) (y9 := (.int .i64 r4)) A8)
   have c0 := A8.cell 0
   have c1 := A8.cell 1
   have c2 := A8.cell 2
   have c3 := A8.cell 3
   have c4 := A8.cell 4
   have c5 := A8.cell 5
   have c6 := A8.cell 6
   have c7 := A8.cell 7
   have c8 := A8.cell 8
   have c9 := A8.cell 9
   simp at c0 c1 c2 c3 c4 c5 c6 c7 c8 c9
   clear d8 A8 G8
   go_wp2
   refine bodyPost_ret (res_rq rfl rfl (by exact hRH.out)) rfl ?_
   exact ⟨⟨⟨x1, x2, y1, y2, F + r1, F + r1 + W0, F + r1 + r2, F + r1 + r2 + W0 + 30, 1 + r3, r4⟩, rfl, rq_ok hxa hxb hya hyb (by omega) (by omega) (by omega) (by omega) (by omega)⟩, hEH.out, hGH.out⟩
 · go_enter Tryz.func59, Tryz.ntmps59
   go_upto_region 1 with fail
   rw [← hq]
   obtain ⟨w1, hw1⟩ : ∃ w1, w.alloc (.cells #[.int .i64 0, .int .i64 0, .int .i64 0, .int .i64 0, .int .i64 0, .int .i64 0, .int .i64 0, .int .i64 0, .int .i64 0, .int .i64 0] 72) = w1 := ⟨_, rfl⟩
   rw [hw1] at h1 hA hg1 ⊢
   clear hw1 hq
   have p2 := h1.box.cell 2
   have hgi1 := h1.box.inside
   simp at p2
   have h1x := h1.alloc (.cells #[.int .i64 400, .int .i64 200, .int .i64 90, .int .i64 40] 3)
   have hAx := hA.alloc (.cells #[.int .i64 400, .int .i64 200, .int .i64 90, .int .i64 40] 3)
   have hg1x := hg1.trans (World.grownBy_alloc w1 (.cells #[.int .i64 400, .int .i64 200, .int .i64 90, .int .i64 40] 3) (some g))
   go_upto_region 2 with fail
   generalize w1.alloc (.cells #[.int .i64 400, .int .i64 200, .int .i64 90, .int .i64 40] 3) = w2 at *
   have hb4' := Lib.hid hb4
   clear h1 hA hg1 p2 hb4 hgi1
   obtain ⟨W0, hW0⟩ : ∃ W0 : Int, W0 = 200 := ⟨_, rfl⟩
   have hW1 : 0 ≤ W0 := by omega
   have hW2 : W0 ≤ 400 := by omega
   have hW3 : W0 ≤ 200 ∧ 1 ≤ W0 := by omega
   rw [← hW0]
   clear hW0
   go_wp2_with fail
   refine (next_any _ g sv bs a b k 40 h1x (by omega) (by omega)).mono ?_
   rintro e w3 ⟨⟨r1, rfl, hr1a, hr1b⟩, d3, g3⟩
   have A3 : At w3 q 72 #[.int .i64 0, .int .i64 0, .int .i64 0, .int .i64 0, .int .i64 0, .int .i64 0, .int .i64 0, .int .i64 0, .int .i64 0, .int .i64 0] := At.grownOff hAx g3 (by omega)
   have G3 := hg1x.trans g3
   clear h1x hAx hg1x g3
   go_wp2_with fail
   refine (next_any _ g sv bs a b (k + 1) 60 d3 (by omega) (by omega)).mono ?_
   rintro e w4 ⟨⟨r2, rfl, hr2a, hr2b⟩, d4, g4⟩
   rw [show (k + 1 + 1 : Int) = k + 2 by omega] at d4
   have A4 : At w4 q 72 #[.int .i64 0, .int .i64 0, .int .i64 0, .int .i64 0, .int .i64 0, .int .i64 0, .int .i64 0, .int .i64 0, .int .i64 0, .int .i64 0] := At.grownOff A3 g4 (by omega)
   have G4 := G3.trans g4
   clear d3 A3 G3 g4
   go_wp2_with fail
   refine (dplace_any _ g sv bs a b (k + 2) d4 (by omega)).mono ?_
   rintro e w5 ⟨⟨x1, x2, rfl, hxa, hxb⟩, d5, g5⟩
   rw [show (k + 2 + 2 : Int) = k + 4 by omega] at d5
   have A5 : At w5 q 72 #[.int .i64 0, .int .i64 0, .int .i64 0, .int .i64 0, .int .i64 0, .int .i64 0, .int .i64 0, .int .i64 0, .int .i64 0, .int .i64 0] := At.grownOff A4 g5 (by omega)
   have G5 := G4.trans g5
   clear d4 A4 G4 g5
   go_wp2_with fail
   refine (dplace_any _ g sv bs a b (k + 4) d5 (by omega)).mono ?_
   rintro e w6 ⟨⟨y1, y2, rfl, hya, hyb⟩, d6, g6⟩
   rw [show (k + 4 + 2 : Int) = k + 6 by omega] at d6
   have A6 : At w6 q 72 #[.int .i64 0, .int .i64 0, .int .i64 0, .int .i64 0, .int .i64 0, .int .i64 0, .int .i64 0, .int .i64 0, .int .i64 0, .int .i64 0] := At.grownOff A5 g6 (by omega)
   have G6 := G5.trans g6
   clear d5 A5 G5 g6
   go_wp2_with fail
   refine (next_any _ g sv bs a b (k + 6) 9 d6 (by omega) (by omega)).mono ?_
   rintro e w7 ⟨⟨r3, rfl, hr3a, hr3b⟩, d7, g7⟩
   rw [show (k + 6 + 1 : Int) = k + 7 by omega] at d7
   have A7 : At w7 q 72 #[.int .i64 0, .int .i64 0, .int .i64 0, .int .i64 0, .int .i64 0, .int .i64 0, .int .i64 0, .int .i64 0, .int .i64 0, .int .i64 0] := At.grownOff A6 g7 (by omega)
   have G7 := G6.trans g7
   clear d6 A6 G6 g7
   go_wp2_with fail
   refine (next_any _ g sv bs a b (k + 7) 4 d7 (by omega) (by omega)).mono ?_
   rintro e w8 ⟨⟨r4, rfl, hr4a, hr4b⟩, d8, g8⟩
   rw [show (k + 7 + 1 : Int) = k + 8 by omega] at d8
   have A8 : At w8 q 72 #[.int .i64 0, .int .i64 0, .int .i64 0, .int .i64 0, .int .i64 0, .int .i64 0, .int .i64 0, .int .i64 0, .int .i64 0, .int .i64 0] := At.grownOff A7 g8 (by omega)
   have G8 := G7.trans g8
   clear d7 A7 G7 g8
   have ff := A8.free
   have hlt := A8.inside
   have hEH := Lib.hid ((((((((((d8.far hqg 0 (.int .i64 x1)).far hqg 1 (.int .i64 x2)).far hqg 2 (.int .i64 y1)).far hqg 3 (.int .i64 y2)).far hqg 4 (.int .i64 (F + r1))).far hqg 5 (.int .i64 (F + r1 + W0))).far hqg 6 (.int .i64 (F + r1 + r2))).far hqg 7 (.int .i64 (F + r1 + r2 + W0 + 30))).far hqg 8 (.int .i64 (1 + r3))).far hqg 9 (.int .i64 r4))
   have hGH := Lib.hid (grown_far (grown_far (grown_far (grown_far (grown_far (grown_far (grown_far (grown_far (grown_far (grown_far G8 hqw 0 (.int .i64 x1)) hqw 1 (.int .i64 x2)) hqw 2 (.int .i64 y1)) hqw 3 (.int .i64 y2)) hqw 4 (.int .i64 (F + r1))) hqw 5 (.int .i64 (F + r1 + W0))) hqw 6 (.int .i64 (F + r1 + r2))) hqw 7 (.int .i64 (F + r1 + r2 + W0 + 30))) hqw 8 (.int .i64 (1 + r3))) hqw 9 (.int .i64 r4))
   have hRH := Lib.hid (put10 (y0 := (.int .i64 x1)) (y1 := (.int .i64 x2)) (y2 := (.int .i64 y1)) (y3 := (.int .i64 y2)) (y4 := (.int .i64 (F + r1))) (y5 := (.int .i64 (F + r1 + W0))) (y6 := (.int .i64 (F + r1 + r2))) (y7 := (.int .i64 (F + r1 + r2 + W0 + 30))) (y8 := (.int .i64 (1 + r3))) (y9 := (.int .i64 r4)) A8)
   have c0 := A8.cell 0
   have c1 := A8.cell 1
   have c2 := A8.cell 2
   have c3 := A8.cell 3
   have c4 := A8.cell 4
   have c5 := A8.cell 5
   have c6 := A8.cell 6
   have c7 := A8.cell 7
   have c8 := A8.cell 8
   have c9 := A8.cell 9
   simp at c0 c1 c2 c3 c4 c5 c6 c7 c8 c9
   clear d8 A8 G8
   go_wp2
   refine bodyPost_ret (res_rq rfl rfl (by exact hRH.out)) rfl ?_
   exact ⟨⟨⟨x1, x2, y1, y2, F + r1, F + r1 + W0, F + r1 + r2, F + r1 + r2 + W0 + 30, 1 + r3, r4⟩, rfl, rq_ok hxa hxb hya hyb (by omega) (by omega) (by omega) (by omega) (by omega)⟩, hEH.out, hGH.out⟩
 · go_enter Tryz.func59, Tryz.ntmps59
   go_upto_region 1 with fail
   rw [← hq]
   obtain ⟨w1, hw1⟩ : ∃ w1, w.alloc (.cells #[.int .i64 0, .int .i64 0, .int .i64 0, .int .i64 0, .int .i64 0, .int .i64 0, .int .i64 0, .int .i64 0, .int .i64 0, .int .i64 0] 72) = w1 := ⟨_, rfl⟩
   rw [hw1] at h1 hA hg1 ⊢
   clear hw1 hq
   have p2 := h1.box.cell 2
   have hgi1 := h1.box.inside
   simp at p2
   have h1x := h1.alloc (.cells #[.int .i64 400, .int .i64 200, .int .i64 90, .int .i64 40] 3)
   have hAx := hA.alloc (.cells #[.int .i64 400, .int .i64 200, .int .i64 90, .int .i64 40] 3)
   have hg1x := hg1.trans (World.grownBy_alloc w1 (.cells #[.int .i64 400, .int .i64 200, .int .i64 90, .int .i64 40] 3) (some g))
   go_upto_region 2 with fail
   generalize w1.alloc (.cells #[.int .i64 400, .int .i64 200, .int .i64 90, .int .i64 40] 3) = w2 at *
   have hb4' := Lib.hid hb4
   clear h1 hA hg1 p2 hb4 hgi1
   obtain ⟨W0, hW0⟩ : ∃ W0 : Int, W0 = 90 := ⟨_, rfl⟩
   have hW1 : 0 ≤ W0 := by omega
   have hW2 : W0 ≤ 400 := by omega
   have hW3 : W0 ≤ 90 ∧ 1 ≤ W0 := by omega
   rw [← hW0]
   clear hW0
   go_wp2_with fail
   refine (next_any _ g sv bs a b k 40 h1x (by omega) (by omega)).mono ?_
   rintro e w3 ⟨⟨r1, rfl, hr1a, hr1b⟩, d3, g3⟩
   have A3 : At w3 q 72 #[.int .i64 0, .int .i64 0, .int .i64 0, .int .i64 0, .int .i64 0, .int .i64 0, .int .i64 0, .int .i64 0, .int .i64 0, .int .i64 0] := At.grownOff hAx g3 (by omega)
   have G3 := hg1x.trans g3
   clear h1x hAx hg1x g3
   go_wp2_with fail
   refine (next_any _ g sv bs a b (k + 1) 60 d3 (by omega) (by omega)).mono ?_
   rintro e w4 ⟨⟨r2, rfl, hr2a, hr2b⟩, d4, g4⟩
   rw [show (k + 1 + 1 : Int) = k + 2 by omega] at d4
   have A4 : At w4 q 72 #[.int .i64 0, .int .i64 0, .int .i64 0, .int .i64 0, .int .i64 0, .int .i64 0, .int .i64 0, .int .i64 0, .int .i64 0, .int .i64 0] := At.grownOff A3 g4 (by omega)
   have G4 := G3.trans g4
   clear d3 A3 G3 g4
   go_wp2_with fail
   refine (dplace_any _ g sv bs a b (k + 2) d4 (by omega)).mono ?_
   rintro e w5 ⟨⟨x1, x2, rfl, hxa, hxb⟩, d5, g5⟩
   rw [show (k + 2 + 2 : Int) = k + 4 by omega] at d5
   have A5 : At w5 q 72 #[.int .i64 0, .int .i64 0, .int .i64 0, .int .i64 0, .int .i64 0, .int .i64 0, .int .i64 0, .int .i64 0, .int .i64 0, .int .i64 0] := At.grownOff A4 g5 (by omega)
   have G5 := G4.trans g5
   clear d4 A4 G4 g5
   go_wp2_with fail
   refine (dplace_any _ g sv bs a b (k + 4) d5 (by omega)).mono ?_
   rintro e w6 ⟨⟨y1, y2, rfl, hya, hyb⟩, d6, g6⟩
   rw [show (k + 4 + 2 : Int) = k + 6 by omega] at d6
   have A6 : At w6 q 72 #[.int .i64 0, .int .i64 0, .int .i64 0, .int .i64 0, .int .i64 0, .int .i64 0, .int .i64 0, .int .i64 0, .int .i64 0, .int .i64 0] := At.grownOff A5 g6 (by omega)
   have G6 := G5.trans g6
   clear d5 A5 G5 g6
   go_wp2_with fail
   refine (next_any _ g sv bs a b (k + 6) 9 d6 (by omega) (by omega)).mono ?_
   rintro e w7 ⟨⟨r3, rfl, hr3a, hr3b⟩, d7, g7⟩
   rw [show (k + 6 + 1 : Int) = k + 7 by omega] at d7
   have A7 : At w7 q 72 #[.int .i64 0, .int .i64 0, .int .i64 0, .int .i64 0, .int .i64 0, .int .i64 0, .int .i64 0, .int .i64 0, .int .i64 0, .int .i64 0] := At.grownOff A6 g7 (by omega)
   have G7 := G6.trans g7
   clear d6 A6 G6 g7
   go_wp2_with fail
   refine (next_any _ g sv bs a b (k + 7) 4 d7 (by omega) (by omega)).mono ?_
   rintro e w8 ⟨⟨r4, rfl, hr4a, hr4b⟩, d8, g8⟩
   rw [show (k + 7 + 1 : Int) = k + 8 by omega] at d8
   have A8 : At w8 q 72 #[.int .i64 0, .int .i64 0, .int .i64 0, .int .i64 0, .int .i64 0, .int .i64 0, .int .i64 0, .int .i64 0, .int .i64 0, .int .i64 0] := At.grownOff A7 g8 (by omega)
   have G8 := G7.trans g8
   clear d7 A7 G7 g8
   have ff := A8.free
   have hlt := A8.inside
   have hEH := Lib.hid ((((((((((d8.far hqg 0 (.int .i64 x1)).far hqg 1 (.int .i64 x2)).far hqg 2 (.int .i64 y1)).far hqg 3 (.int .i64 y2)).far hqg 4 (.int .i64 (F + r1))).far hqg 5 (.int .i64 (F + r1 + W0))).far hqg 6 (.int .i64 (F + r1 + r2))).far hqg 7 (.int .i64 (F + r1 + r2 + W0 + 30))).far hqg 8 (.int .i64 (1 + r3))).far hqg 9 (.int .i64 r4))
   have hGH := Lib.hid (grown_far (grown_far (grown_far (grown_far (grown_far (grown_far (grown_far (grown_far (grown_far (grown_far G8 hqw 0 (.int .i64 x1)) hqw 1 (.int .i64 x2)) hqw 2 (.int .i64 y1)) hqw 3 (.int .i64 y2)) hqw 4 (.int .i64 (F + r1))) hqw 5 (.int .i64 (F + r1 + W0))) hqw 6 (.int .i64 (F + r1 + r2))) hqw 7 (.int .i64 (F + r1 + r2 + W0 + 30))) hqw 8 (.int .i64 (1 + r3))) hqw 9 (.int .i64 r4))
   have hRH := Lib.hid (put10 (y0 := (.int .i64 x1)) (y1 := (.int .i64 x2)) (y2 := (.int .i64 y1)) (y3 := (.int .i64 y2)) (y4 := (.int .i64 (F + r1))) (y5 := (.int .i64 (F + r1 + W0))) (y6 := (.int .i64 (F + r1 + r2))) (y7 := (.int .i64 (F + r1 + r2 + W0 + 30))) (y8 := (.int .i64 (1 + r3))) (y9 := (.int .i64 r4)) A8)
   have c0 := A8.cell 0
   have c1 := A8.cell 1
   have c2 := A8.cell 2
   have c3 := A8.cell 3
   have c4 := A8.cell 4
   have c5 := A8.cell 5
   have c6 := A8.cell 6
   have c7 := A8.cell 7
   have c8 := A8.cell 8
   have c9 := A8.cell 9
   simp at c0 c1 c2 c3 c4 c5 c6 c7 c8 c9
   clear d8 A8 G8
   go_wp2
   refine bodyPost_ret (res_rq rfl rfl (by exact hRH.out)) rfl ?_
   exact ⟨⟨⟨x1, x2, y1, y2, F + r1, F + r1 + W0, F + r1 + r2, F + r1 + r2 + W0 + 30, 1 + r3, r4⟩, rfl, rq_ok hxa hxb hya hyb (by omega) (by omega) (by omega) (by omega) (by omega)⟩, hEH.out, hGH.out⟩
 · go_enter Tryz.func59, Tryz.ntmps59
   go_upto_region 1 with fail
   rw [← hq]
   obtain ⟨w1, hw1⟩ : ∃ w1, w.alloc (.cells #[.int .i64 0, .int .i64 0, .int .i64 0, .int .i64 0, .int .i64 0, .int .i64 0, .int .i64 0, .int .i64 0, .int .i64 0, .int .i64 0] 72) = w1 := ⟨_, rfl⟩
   rw [hw1] at h1 hA hg1 ⊢
   clear hw1 hq
   have p2 := h1.box.cell 2
   have hgi1 := h1.box.inside
   simp at p2
   have h1x := h1.alloc (.cells #[.int .i64 400, .int .i64 200, .int .i64 90, .int .i64 40] 3)
   have hAx := hA.alloc (.cells #[.int .i64 400, .int .i64 200, .int .i64 90, .int .i64 40] 3)
   have hg1x := hg1.trans (World.grownBy_alloc w1 (.cells #[.int .i64 400, .int .i64 200, .int .i64 90, .int .i64 40] 3) (some g))
   go_upto_region 2 with fail
   generalize w1.alloc (.cells #[.int .i64 400, .int .i64 200, .int .i64 90, .int .i64 40] 3) = w2 at *
   have hb4' := Lib.hid hb4
   clear h1 hA hg1 p2 hb4 hgi1
   obtain ⟨W0, hW0⟩ : ∃ W0 : Int, W0 = 40 := ⟨_, rfl⟩
   have hW1 : 0 ≤ W0 := by omega
   have hW2 : W0 ≤ 400 := by omega
   have hW3 : W0 ≤ 40 ∧ 1 ≤ W0 := by omega
   rw [← hW0]
   clear hW0
   go_wp2_with fail
   refine (next_any _ g sv bs a b k W0 h1x (by omega) (by omega)).mono ?_
   rintro e w3 ⟨⟨r1, rfl, hr1a, hr1b⟩, d3, g3⟩
   have A3 : At w3 q 72 #[.int .i64 0, .int .i64 0, .int .i64 0, .int .i64 0, .int .i64 0, .int .i64 0, .int .i64 0, .int .i64 0, .int .i64 0, .int .i64 0] := At.grownOff hAx g3 (by omega)
   have G3 := hg1x.trans g3
   clear h1x hAx hg1x g3
   go_wp2_with fail
   refine (next_any _ g sv bs a b (k + 1) 60 d3 (by omega) (by omega)).mono ?_
   rintro e w4 ⟨⟨r2, rfl, hr2a, hr2b⟩, d4, g4⟩
   rw [show (k + 1 + 1 : Int) = k + 2 by omega] at d4
   have A4 : At w4 q 72 #[.int .i64 0, .int .i64 0, .int .i64 0, .int .i64 0, .int .i64 0, .int .i64 0, .int .i64 0, .int .i64 0, .int .i64 0, .int .i64 0] := At.grownOff A3 g4 (by omega)
   have G4 := G3.trans g4
   clear d3 A3 G3 g4
   go_wp2_with fail
   refine (dplace_any _ g sv bs a b (k + 2) d4 (by omega)).mono ?_
   rintro e w5 ⟨⟨x1, x2, rfl, hxa, hxb⟩, d5, g5⟩
   rw [show (k + 2 + 2 : Int) = k + 4 by omega] at d5
   have A5 : At w5 q 72 #[.int .i64 0, .int .i64 0, .int .i64 0, .int .i64 0, .int .i64 0, .int .i64 0, .int .i64 0, .int .i64 0, .int .i64 0, .int .i64 0] := At.grownOff A4 g5 (by omega)
   have G5 := G4.trans g5
   clear d4 A4 G4 g5
   go_wp2_with fail
   refine (dplace_any _ g sv bs a b (k + 4) d5 (by omega)).mono ?_
   rintro e w6 ⟨⟨y1, y2, rfl, hya, hyb⟩, d6, g6⟩
   rw [show (k + 4 + 2 : Int) = k + 6 by omega] at d6
   have A6 : At w6 q 72 #[.int .i64 0, .int .i64 0, .int .i64 0, .int .i64 0, .int .i64 0, .int .i64 0, .int .i64 0, .int .i64 0, .int .i64 0, .int .i64 0] := At.grownOff A5 g6 (by omega)
   have G6 := G5.trans g6
   clear d5 A5 G5 g6
   go_wp2_with fail
   refine (next_any _ g sv bs a b (k + 6) 9 d6 (by omega) (by omega)).mono ?_
   rintro e w7 ⟨⟨r3, rfl, hr3a, hr3b⟩, d7, g7⟩
   rw [show (k + 6 + 1 : Int) = k + 7 by omega] at d7
   have A7 : At w7 q 72 #[.int .i64 0, .int .i64 0, .int .i64 0, .int .i64 0, .int .i64 0, .int .i64 0, .int .i64 0, .int .i64 0, .int .i64 0, .int .i64 0] := At.grownOff A6 g7 (by omega)
   have G7 := G6.trans g7
   clear d6 A6 G6 g7
   go_wp2_with fail
   refine (next_any _ g sv bs a b (k + 7) 4 d7 (by omega) (by omega)).mono ?_
   rintro e w8 ⟨⟨r4, rfl, hr4a, hr4b⟩, d8, g8⟩
   rw [show (k + 7 + 1 : Int) = k + 8 by omega] at d8
   have A8 : At w8 q 72 #[.int .i64 0, .int .i64 0, .int .i64 0, .int .i64 0, .int .i64 0, .int .i64 0, .int .i64 0, .int .i64 0, .int .i64 0, .int .i64 0] := At.grownOff A7 g8 (by omega)
   have G8 := G7.trans g8
   clear d7 A7 G7 g8
   have ff := A8.free
   have hlt := A8.inside
   have hEH := Lib.hid ((((((((((d8.far hqg 0 (.int .i64 x1)).far hqg 1 (.int .i64 x2)).far hqg 2 (.int .i64 y1)).far hqg 3 (.int .i64 y2)).far hqg 4 (.int .i64 (F + r1))).far hqg 5 (.int .i64 (F + r1 + W0))).far hqg 6 (.int .i64 (F + r1 + r2))).far hqg 7 (.int .i64 (F + r1 + r2 + W0 + 30))).far hqg 8 (.int .i64 (1 + r3))).far hqg 9 (.int .i64 r4))
   have hGH := Lib.hid (grown_far (grown_far (grown_far (grown_far (grown_far (grown_far (grown_far (grown_far (grown_far (grown_far G8 hqw 0 (.int .i64 x1)) hqw 1 (.int .i64 x2)) hqw 2 (.int .i64 y1)) hqw 3 (.int .i64 y2)) hqw 4 (.int .i64 (F + r1))) hqw 5 (.int .i64 (F + r1 + W0))) hqw 6 (.int .i64 (F + r1 + r2))) hqw 7 (.int .i64 (F + r1 + r2 + W0 + 30))) hqw 8 (.int .i64 (1 + r3))) hqw 9 (.int .i64 r4))
   have hRH := Lib.hid (put10 (y0 := (.int .i64 x1)) (y1 := (.int .i64 x2)) (y2 := (.int .i64 y1)) (y3 := (.int .i64 y2)) (y4 := (.int .i64 (F + r1))) (y5 := (.int .i64 (F + r1 + W0))) (y6 := (.int .i64 (F + r1 + r2))) (y7 := (.int .i64 (F + r1 + r2 + W0 + 30))) (y8 := (.int .i64 (1 + r3))) (y9 := (.int .i64 r4)) A8)
   have c0 := A8.cell 0
   have c1 := A8.cell 1
   have c2 := A8.cell 2
   have c3 := A8.cell 3
   have c4 := A8.cell 4
   have c5 := A8.cell 5
   have c6 := A8.cell 6
   have c7 := A8.cell 7
   have c8 := A8.cell 8
   have c9 := A8.cell 9
   simp at c0 c1 c2 c3 c4 c5 c6 c7 c8 c9
   clear d8 A8 G8
   go_wp2
   refine bodyPost_ret (res_rq rfl rfl (by exact hRH.out)) rfl ?_
   exact ⟨⟨⟨x1, x2, y1, y2, F + r1, F + r1 + W0, F + r1 + r2, F + r1 + r2 + W0 + 30, 1 + r3, r4⟩, rfl, rq_ok hxa hxb hya hyb (by omega) (by omega) (by omega) (by omega) (by omega)⟩, hEH.out, hGH.out⟩
set_option maxRecDepth 100000 in
set_option maxHeartbeats 4000000 in
theorem dvehicle_any (w : World) (g : Nat) (sv : Value) (bs : List Int) (a b k : Int) (h : DraftAt w g sv bs a b k) (hk : 0 ≤ k ∧ k < 800000) :
 Calls Tryz.prog 32 #[.pointer (some ⟨g, 0, none⟩)] w fun e w' =>
  (∃ v : Vh, e = .returned (.agg #[.int .i64 v.hx, .int .i64 v.hy, .int .i64 v.cp, .int .i64 v.st, .int .i64 v.en]) ∧ v.dr) ∧ DraftAt w' g sv bs a b (k + 5) ∧ w.grownBy w' (some g) := by
 have hgi := h.box.inside
 have h1 := h.alloc (.cells #[.int .i64 0, .int .i64 0, .int .i64 0, .int .i64 0, .int .i64 0] 64)
 have hA := At.new w 64 #[.int .i64 0, .int .i64 0, .int .i64 0, .int .i64 0, .int .i64 0]
 have hg1 : w.grownBy (w.alloc (.cells #[.int .i64 0, .int .i64 0, .int .i64 0, .int .i64 0, .int .i64 0] 64)) (some g) := World.grownBy_alloc _ _ _
 obtain ⟨q, hq⟩ : ∃ q, q = w.heap.size := ⟨_, rfl⟩
 rw [← hq] at hA
 have hqg : g < q := by omega
 have hqw : w.heap.size ≤ q := by omega
 clear h hgi
 go_enter Tryz.func32, Tryz.ntmps32
 go_upto_region 1 with fail
 rw [← hq]
 obtain ⟨w1, hw1⟩ : ∃ w1, w.alloc (.cells #[.int .i64 0, .int .i64 0, .int .i64 0, .int .i64 0, .int .i64 0] 64) = w1 := ⟨_, rfl⟩
 rw [hw1] at h1 hA hg1 ⊢
 clear hw1 hq
 go_wp2_with fail
 refine (dplace_any _ g sv bs a b k h1 (by omega)).mono ?_
 rintro e w2 ⟨⟨x1, x2, rfl, hxa, hxb⟩, d2, g2⟩
 have A2 : At w2 q 64 #[.int .i64 0, .int .i64 0, .int .i64 0, .int .i64 0, .int .i64 0] := At.grownOff hA g2 (by omega)
 have G2 := hg1.trans g2
 clear h1 hA hg1 g2
 go_wp2_with fail
 refine (next_any _ g sv bs a b (k + 2) 20 d2 (by omega) (by omega)).mono ?_
 rintro e w3 ⟨⟨r1, rfl, hr1a, hr1b⟩, d3, g3⟩
 rw [show (k + 2 + 1 : Int) = k + 3 by omega] at d3
 have A3 : At w3 q 64 #[.int .i64 0, .int .i64 0, .int .i64 0, .int .i64 0, .int .i64 0] := At.grownOff A2 g3 (by omega)
 have G3 := G2.trans g3
 clear d2 A2 G2 g3
 go_wp2_with fail
 refine (next_any _ g sv bs a b (k + 3) 20 d3 (by omega) (by omega)).mono ?_
 rintro e w4 ⟨⟨r2, rfl, hr2a, hr2b⟩, d4, g4⟩
 rw [show (k + 3 + 1 : Int) = k + 4 by omega] at d4
 have A4 : At w4 q 64 #[.int .i64 0, .int .i64 0, .int .i64 0, .int .i64 0, .int .i64 0] := At.grownOff A3 g4 (by omega)
 have G4 := G3.trans g4
 clear d3 A3 G3 g4
 go_wp2_with fail
 refine (next_any _ g sv bs a b (k + 4) 100 d4 (by omega) (by omega)).mono ?_
 rintro e w5 ⟨⟨r3, rfl, hr3a, hr3b⟩, d5, g5⟩
 rw [show (k + 4 + 1 : Int) = k + 5 by omega] at d5
 have A5 : At w5 q 64 #[.int .i64 0, .int .i64 0, .int .i64 0, .int .i64 0, .int .i64 0] := At.grownOff A4 g5 (by omega)
 have G5 := G4.trans g5
 clear d4 A4 G4 g5
 have ff := A5.free
 have hlt := A5.inside
 have hEH := Lib.hid (((((d5.far hqg 0 (.int .i64 x1)).far hqg 1 (.int .i64 x2)).far hqg 2 (.int .i64 (8 + r1))).far hqg 3 (.int .i64 r2)).far hqg 4 (.int .i64 (300 + 8 * r3)))
 have hGH := Lib.hid (grown_far (grown_far (grown_far (grown_far (grown_far G5 hqw 0 (.int .i64 x1)) hqw 1 (.int .i64 x2)) hqw 2 (.int .i64 (8 + r1))) hqw 3 (.int .i64 r2)) hqw 4 (.int .i64 (300 + 8 * r3)))
 have hRH := Lib.hid (put5 (y0 := .int .i64 x1) (y1 := .int .i64 x2) (y2 := .int .i64 (8 + r1)) (y3 := .int .i64 r2) (y4 := .int .i64 (300 + 8 * r3)) A5)
 have c0 := A5.cell 0
 have c1 := A5.cell 1
 have c2 := A5.cell 2
 have c3 := A5.cell 3
 have c4 := A5.cell 4
 simp at c0 c1 c2 c3 c4
 clear d5 A5 G5
 go_wp2
 refine bodyPost_ret (res_vh rfl rfl (by exact hRH.out)) rfl ?_
 exact ⟨⟨⟨x1, x2, 8 + r1, r2, 300 + 8 * r3⟩, rfl, vh_ok hxa hxb (by omega) (by omega) (by omega)⟩, hEH.out, hGH.out⟩
end Go.Proofs.YtlbghdiebjldjaaGreatDoor.When
namespace Go.Proofs.YtlbghdiebjldjaaGreatDoor.When
open Go.RowKit Go.Proofs.YtlbghdiebjldjaaGreatDoor.Mem Go.Proofs.YtlbghdiebjldjaaGreatDoor.Route
set_option linter.unusedVariables false
theorem own_grown {w5 W V : World} {r row : Option Nat} (h : w5.grownBy W r) (hg : W.grownBy V row) (hr : ∀ b, row = some b → w5.heap.size ≤ b) : w5.grownBy V r :=
 ⟨hg.os.trans h.os, hg.tape.trans h.tape, hg.output.trans h.output, Nat.le_trans h.size hg.size, fun k hk hn => (hg.block k (by have := h.size; omega) (fun e => by have := hr k e.symm; omega)).trans (h.block k hk hn)⟩
theorem DraftAt.keep {W W' : World} {g B : Nat} {sv : Value} {bs : List Int} {a b k : Int} (h : DraftAt W g sv bs a b k) (hb : Below B W W') (hg : g < B) : DraftAt W' g sv bs a b k :=
 ⟨h.box.keep hb hg, h.row.keep hb (Nat.le_of_lt hg), h.byte, h.na, h.nb⟩
def flatQ (t : List Rq) : List Value := (t.map rqV).flatten
theorem flatQ_snoc (t : List Rq) (q : Rq) : flatQ (t ++ [q]) = flatQ t ++ [.int .i64 q.fx, .int .i64 q.fy, .int .i64 q.tx, .int .i64 q.ty, .int .i64 q.pe, .int .i64 q.pl, .int .i64 q.de, .int .i64 q.dl, .int .i64 q.ld, .int .i64 q.sv] := by simp [flatQ, rqV]
theorem Rqs.of_owns {B : Nat} {W : World} {base n : Nat} {e : TypeId} {v : Value} {l : List Rq} (h : W.ownsRow base e 10 v n (flatQ l)) (hn : n = l.length) (hB : W.heap.size ≤ B) : Rqs B W v l :=
 RowB.of_owns h (by simpa using hn) (fun r hr => by obtain ⟨s, _, rfl⟩ := List.mem_map.1 hr; rfl) hB
theorem info_request : (Tryz.prog.info? 72).map (fun i => (i.zero, i.size, i.bytes)) = some (some (.agg #[.int .i64 0, .int .i64 0, .int .i64 0, .int .i64 0, .int .i64 0, .int .i64 0, .int .i64 0, .int .i64 0, .int .i64 0, .int .i64 0]), 10, 80) := by kernel_rfl
set_option maxRecDepth 100000 in
set_option maxHeartbeats 1000000 in
theorem drequests_any (w : World) (g : Nat) (sv : Value) (bs : List Int) (a b k : Int) (n : Nat) (h : DraftAt w g sv bs a b k) (hk : 0 ≤ k ∧ k < 700000) (hn : n ≤ 9) :
 Calls Tryz.prog 31 #[.pointer (some ⟨g, 0, none⟩), .int .i64 n] w fun e w' =>
  (∃ u t, e = .returned u ∧ w'.ownsRow w.heap.size 72 10 u t.length (flatQ t) ∧ t.length = n ∧ ∀ q ∈ t, q.dr) ∧ DraftAt w' g sv bs a b (k + 8 * n) ∧ w.grownBy w' (some g) := by
 obtain ⟨i0, hi, hz0, hz1, hz2⟩ := info_parts info_request
 have hgi := h.box.inside
 have h' := Lib.hid h
 clear h
 go_enter Tryz.func31, Tryz.ntmps31
 go_wp2
 go_loopw [5, 6] (fun u i wr => ∃ (j : Nat) (t : List Rq) (x : Option Addr) (cap : Nat), i = .int .i64 j ∧ j ≤ n ∧ u = .slice x j cap ∧ t.length = j ∧ wr.ownsRow w.heap.size 72 10 (.slice x j cap) j (flatQ t) ∧ (∀ q ∈ t, q.dr) ∧ DraftAt wr g sv bs a b (k + 8 * j) ∧ w.grownBy wr (some g)) (fun _ i _ => n - (intOf i).toNat)
 case atStart => exact ⟨0, [], none, 0, rfl, Nat.zero_le _, rfl, rfl, World.ownsRow_nil _ _ _ _, fun q hq => (by cases hq), by simpa using h'.out, grown_refl _ _⟩
 case round =>
  obtain ⟨j, t, x, cap, rfl, hj, rfl, htl, hown, hch, hD, hG⟩ := hrel
  clear h'
  have htl' := Lib.hid htl
  have hch' := Lib.hid hch
  clear htl hch
  by_cases hlt : j < n
  · have hcall := drequest_any wr g sv bs a b (k + 8 * j) (25 * j) hD (by omega) (by omega)
    have hown' := Lib.hid hown
    have hG' := Lib.hid hG
    have hws := hG.size
    clear hown hG hD
    go_wp2_with fail
    refine hcall.mono ?_
    clear hcall
    rintro e w3 ⟨⟨q, rfl, hq⟩, hD3, hg3⟩
    rw [show k + 8 * (j : Int) + 8 = k + 8 * ((j + 1 : Nat) : Int) by omega] at hD3
    have hown3 := Lib.hid (owns_old hown'.out hg3 (fun r e => .inl (by cases e; omega)))
    have hro := Lib.hid (owns_row hown'.out)
    have hG3 := Lib.hid (hG'.out.trans hg3)
    have hD3' := Lib.hid hD3
    have hq' := Lib.hid hq
    have hs3 := hg3.size
    clear hD3 hg3 hq
    go_wp2_with (at_builtin; refine wpList_append_own _ rfl _ _ 29 rfl w.heap.size 72 i0 (.agg #[.int .i64 0, .int .i64 0, .int .i64 0, .int .i64 0, .int .i64 0, .int .i64 0, .int .i64 0, .int .i64 0, .int .i64 0, .int .i64 0]) 10 80 Tryz.underlying29 hi hz0 hz1 hz2 rfl (by decide) _ _ _ rfl (hown3.out.alloc _) ⟨w3.heap.size, 0, none⟩ 1 1 [.int .i64 q.fx, .int .i64 q.fy, .int .i64 q.tx, .int .i64 q.ty, .int .i64 q.pe, .int .i64 q.pl, .int .i64 q.de, .int .i64 q.dl, .int .i64 q.ld, .int .i64 q.sv] rfl rfl (World.news_of_block (cs := #[.int .i64 q.fx, .int .i64 q.fy, .int .i64 q.tx, .int .i64 q.ty, .int .i64 q.pe, .int .i64 q.pl, .int .i64 q.de, .int .i64 q.dl, .int .i64 q.ld, .int .i64 q.sv]) (t := 72) (fr := (0, 0)) (heap_alloc_new w3 _)) (by simp [Value.oneCell']) (by unfold maxLen; omega) (by omega) (by simp; omega) ?_; intro v7 w7 hown7 hgrow7 hnil7; obtain ⟨x7, c7, rfl, _, _⟩ := owns_slice hown7)
    have hG7 := own_grown (hG3.out.trans (World.grownBy_alloc _ _ _)) hgrow7 (fun r e => hro.out r e)
    have hD7 := (hD3'.out.alloc _).under hgrow7 (fun r e => by have := hro.out r e; omega)
    go_roundw
    case rel =>
     refine ⟨j + 1, t ++ [q], x7, c7, by go_num, hlt, rfl, by simp [htl'.out], by rw [flatQ_snoc]; exact hown7, fun p hp => ?_, hD7, hG7⟩
     rcases List.mem_append.1 hp with hp | hp
     · exact hch'.out p hp
     · obtain rfl := List.mem_singleton.1 hp
       exact hq'.out
    case measure => simp [intOf]; omega
  · obtain rfl : j = n := by omega
    have hown' := Lib.hid hown
    have hD' := Lib.hid hD
    have hG' := Lib.hid hG
    clear hown hD hG
    go_wp2
    go_ret
    exact ⟨⟨_, t, rfl, by rw [htl'.out]; exact hown'.out, htl'.out, hch'.out⟩, hD'.out, hG'.out⟩
def Small (l : List (Int × Int)) : Prop := ∀ s ∈ l, (0 ≤ s.1 ∧ s.1 ≤ 6) ∧ 0 ≤ s.2 ∧ s.2 ≤ 1
theorem Small.nums {l : List (Int × Int)} (h : Small l) : Nums l := fun s hs => by have := h s hs; exact ⟨⟨by omega, by omega⟩, by omega, by omega⟩
theorem Small.put {l : List (Int × Int)} (h : Small l) (k : Nat) {s : Int × Int} (hs : (0 ≤ s.1 ∧ s.1 ≤ 6) ∧ 0 ≤ s.2 ∧ s.2 ≤ 1) : Small (putL l k s) := by
 intro p hp
 unfold putL at hp
 rcases List.mem_append.1 hp with hp | hp
 · exact h p (List.mem_of_mem_take hp)
 · rcases List.mem_cons.1 hp with rfl | hp
   · exact hs
   · exact h p (List.mem_of_mem_drop hp)
def Fine (l : List (Int × Int)) (j : Nat) : Prop := Small l ∧ isR l = true ∧ (∀ s ∈ l, s.1 < j) ∧ l.length = 2 * j
theorem Fine.nil : Fine [] 0 := ⟨fun s h => (by cases h), rfl, fun s h => (by cases h), rfl⟩
def Half (l8 : List (Int × Int)) (j K : Nat) : Prop := ∃ l, Fine l j ∧ K ≤ l.length ∧ putL l K ((j : Int), 0) = l8
theorem Half.mk_ {l : List (Int × Int)} {j K : Nat} (h : Fine l j) (hK : K ≤ l.length) : Half (putL l K ((j : Int), 0)) j K := ⟨l, h, hK, rfl⟩
end Go.Proofs.YtlbghdiebjldjaaGreatDoor.When

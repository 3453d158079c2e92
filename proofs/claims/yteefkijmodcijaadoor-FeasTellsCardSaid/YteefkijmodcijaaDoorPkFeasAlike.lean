import Derived.Test.YteefkijmodcijaaDoorPkFeasRefC
import Derived.Test.YteefkijmodcijaaDoorPkFeasCheck

/-
  The program and the document say the same of a route.
-/
namespace Go.Proofs.YteefkijmodcijaaDoor.Feas
open Go.RowKit Go.Sort Go.Proofs.YteefkijmodcijaaDoor.Mem Go.Proofs.YteefkijmodcijaaDoor.Route Go.Proofs.YteefkijmodcijaaDoor.When Go.Proofs.YteefkijmodcijaaDoor.Load Go.Proofs.YteefkijmodcijaaDoor.Place
set_option linter.unusedVariables false

set_option maxRecDepth 100000 in
set_option maxHeartbeats 4000000 in
theorem alike_any (v : Vh) (vl vt : Value) (l : List (Int × Int)) (t : List Rq) (hl : l.length ≤ 100) (hnum : Nums l) (w : World) (hg : Hd w) (hL : Row w.heap.size w vl l) (hT : Rqs w.heap.size w vt t) :
    Calls Tryd.prog 12 #[.agg #[.int .i64 v.hx, .int .i64 v.hy, .int .i64 v.cp, .int .i64 v.st, .int .i64 v.en], vl, vt] w fun e w' => e = .returned (.bool true) ∧ Below w.heap.size w w' := by
  obtain ⟨xt, Nt, capt, rfl, hNt, htc1, htc2, ht0⟩ := hT.opened
  obtain ⟨xl, N, capl, rfl, hN', h0', hlc1, hlc2⟩ := hL.opened
  obtain ⟨q, hq⟩ : ∃ q, w.heap.size = q := ⟨_, rfl⟩
  have hq' := Lib.hid hq
  obtain ⟨w1, hw1⟩ : ∃ w1, w.alloc (.cells #[.int .i64 v.hx, .int .i64 v.hy, .int .i64 v.cp, .int .i64 v.st, .int .i64 v.en] 34) = w1 := ⟨_, rfl⟩
  have hV : At w1 q 34 #[.int .i64 v.hx, .int .i64 v.hy, .int .i64 v.cp, .int .i64 v.st, .int .i64 v.en] := by rw [← hw1]; exact At.new_ _ _ _ hq.symm
  have hB : Below w.heap.size w w1 := by rw [← hw1]; exact (Below.refl _ _).alloc (by omega) _
  have hw1' := Lib.hid hw1
  have hg1 := Lib.hid (hg.on hB)
  have hro := Lib.hid (hL.on hB)
  have hqr := Lib.hid (hT.on hB)
  have hl' := Lib.hid hl
  have hn' := Lib.hid hnum
  have hB' := Lib.hid hB
  have hqw : q < w1.heap.size := hV.inside
  have hfc := Lib.hid (fault_code (v := v) (l := l) (t := t))
  obtain ⟨F, hF⟩ : ∃ F, faultV v l t = F := ⟨_, rfl⟩
  obtain ⟨F1, F2, F3⟩ := F
  have hF' := Lib.hid hF
  rw [hF] at hfc
  clear hT hNt ht0 hL hl h0' hw1 hq hB hg hnum hF
  go_enter Tryd.func12, Tryd.ntmps12
  go_upto_region 1 with fail
  simp only [hq'.out]
  rw [hw1'.out]
  refine Sched.wp_region_sched 10 (fun W W' => Below W.heap.size W W') (VK [.val (.agg #[.int .i64 v.hx, .int .i64 v.hy, .int .i64 v.cp, .int .i64 v.st, .int .i64 v.en]), .val (.slice xl N capl), .val (.slice xt Nt capt), .of (fun v w => ErrAt w v (F1, F2, F3)) (fun h hb => ErrAt.on h hb), .val (.agg #[.int .i64 v.hx, .int .i64 v.hy, .int .i64 v.cp, .int .i64 v.st, .int .i64 v.en]), .val (.slice xl N capl), .val (.slice xt Nt capt), .val (.agg #[.int .i64 F1, .int .i64 F2, .int .i64 F3]), .of (fun v w => ∃ g : Nat, v = .pointer (some ⟨g, 0, none⟩) ∧ w1.heap.size ≤ g ∧ At w g 55 #[.int .i64 0, .int .i64 0, .int .i64 0]) (fun ⟨g, e, hg, h⟩ hb => ⟨g, e, hg, h.keep hb h.inside⟩), .of (fun v w => ErrAt w v (F1, F2, F3)) (fun h hb => ErrAt.on h hb)]) (fun _ _ _ => True) (by kernel_rfl) (by kernel_rfl) (by kernel_rfl) (fun h1 h2 => belowTr h1 h2) (fun h1 h2 => VK.keep h1 h2) (Below.refl _ _).drew (fun _ => trivial) (Sched.StepsA.steps (by kernel_rfl) ?hSA) ?hQA
  case hSA =>
   simp only [List.take_succ_cons, List.take_zero]
   refine ⟨?_, ?_, ?_, ?_, ?_, ?_, ?_, ?_, ?_, ?_, trivial⟩
   · intro ys done W aa hE hn hF hD hZ hG hO
     replace hE : Below w1.heap.size w1 W := hE
     have o3 := hO 3 (by kernel_rfl)
     replace o3 : aa.tmps[3]? = some (.pointer (some ⟨q, 0, none⟩)) := o3
     have hAt := hV.keep hE hV.inside
     have p0 := hAt.cell 0
     have p1 := hAt.cell 1
     have p2 := hAt.cell 2
     have p3 := hAt.cell 3
     have p4 := hAt.cell 4
     simp at p0 p1 p2 p3 p4
     clear hAt
     go_wp2_with fail
     first | exact ⟨_, rfl, Below.refl _ _, VK.val rfl rfl, trivial⟩ | exact ⟨_, rfl, Below.refl _ _, VK.val rfl rfl⟩
   · intro ys done W aa hE hn hF hD hZ hG hO
     replace hE : Below w1.heap.size w1 W := hE
     have o1 := hO 1 (by kernel_rfl)
     replace o1 : aa.tmps[1]? = some (.slice xl N capl) := o1
     go_wp2_with fail
     first | exact ⟨_, rfl, Below.refl _ _, VK.val rfl rfl, trivial⟩ | exact ⟨_, rfl, Below.refl _ _, VK.val rfl rfl⟩
   · intro ys done W aa hE hn hF hD hZ hG hO
     replace hE : Below w1.heap.size w1 W := hE
     have o2 := hO 2 (by kernel_rfl)
     replace o2 : aa.tmps[2]? = some (.slice xt Nt capt) := o2
     go_wp2_with fail
     first | exact ⟨_, rfl, Below.refl _ _, VK.val rfl rfl, trivial⟩ | exact ⟨_, rfl, Below.refl _ _, VK.val rfl rfl⟩
   · intro ys done W aa hE hn hF hD hZ hG hO
     replace hE : Below w1.heap.size w1 W := hE
     have v0 := (hF 0 (by decide) (hD 0 (by kernel_rfl))).eq rfl
     have g0 := hG 0 9 rfl (Nat.le_of_ble_eq_true rfl)
     rw [v0] at g0
     have v1 := (hF 1 (by decide) (hD 1 (by kernel_rfl))).eq rfl
     have g1 := hG 1 10 rfl (Nat.le_of_ble_eq_true rfl)
     rw [v1] at g1
     have v2 := (hF 2 (by decide) (hD 2 (by kernel_rfl))).eq rfl
     have g2 := hG 2 11 rfl (Nat.le_of_ble_eq_true rfl)
     rw [v2] at g2
     go_wp2_with fail
     refine (Check_any v _ _ l t (by have := hl'.out; omega) hn'.out W (hro.out.on hE) (hqr.out.on hE)).mono ?_
     rintro e W' ⟨⟨u, rfl, hu⟩, hb'⟩
     rw [hF'.out] at hu
     replace hb' := Lib.hid hb'
     replace hu := Lib.hid hu
     go_wp2_with fail
     first | exact ⟨_, rfl, hb'.out, VK.of rfl hu.out, trivial⟩ | exact ⟨_, rfl, hb'.out, VK.of rfl hu.out⟩
   · intro ys done W aa hE hn hF hD hZ hG hO
     replace hE : Below w1.heap.size w1 W := hE
     have o3 := hO 3 (by kernel_rfl)
     replace o3 : aa.tmps[3]? = some (.pointer (some ⟨q, 0, none⟩)) := o3
     have hAt := hV.keep hE hV.inside
     have p0 := hAt.cell 0
     have p1 := hAt.cell 1
     have p2 := hAt.cell 2
     have p3 := hAt.cell 3
     have p4 := hAt.cell 4
     simp at p0 p1 p2 p3 p4
     clear hAt
     go_wp2_with fail
     first | exact ⟨_, rfl, Below.refl _ _, VK.val rfl rfl, trivial⟩ | exact ⟨_, rfl, Below.refl _ _, VK.val rfl rfl⟩
   · intro ys done W aa hE hn hF hD hZ hG hO
     replace hE : Below w1.heap.size w1 W := hE
     have o1 := hO 1 (by kernel_rfl)
     replace o1 : aa.tmps[1]? = some (.slice xl N capl) := o1
     go_wp2_with fail
     first | exact ⟨_, rfl, Below.refl _ _, VK.val rfl rfl, trivial⟩ | exact ⟨_, rfl, Below.refl _ _, VK.val rfl rfl⟩
   · intro ys done W aa hE hn hF hD hZ hG hO
     replace hE : Below w1.heap.size w1 W := hE
     have o2 := hO 2 (by kernel_rfl)
     replace o2 : aa.tmps[2]? = some (.slice xt Nt capt) := o2
     go_wp2_with fail
     first | exact ⟨_, rfl, Below.refl _ _, VK.val rfl rfl, trivial⟩ | exact ⟨_, rfl, Below.refl _ _, VK.val rfl rfl⟩
   · intro ys done W aa hE hn hF hD hZ hG hO
     replace hE : Below w1.heap.size w1 W := hE
     have v4 := (hF 4 (by decide) (hD 4 (by kernel_rfl))).eq rfl
     have g4 := hG 4 13 rfl (Nat.le_of_ble_eq_true rfl)
     rw [v4] at g4
     have v5 := (hF 5 (by decide) (hD 5 (by kernel_rfl))).eq rfl
     have g5 := hG 5 14 rfl (Nat.le_of_ble_eq_true rfl)
     rw [v5] at g5
     have v6 := (hF 6 (by decide) (hD 6 (by kernel_rfl))).eq rfl
     have g6 := hG 6 15 rfl (Nat.le_of_ble_eq_true rfl)
     rw [v6] at g6
     go_wp2_with fail
     refine (rCheck_any v _ _ l t hl'.out W (hro.out.on hE) (hqr.out.on hE)).mono ?_
     rintro e W' ⟨rfl, hb'⟩
     rw [hF'.out]
     replace hb' := Lib.hid hb'
     go_wp2_with fail
     first | exact ⟨_, rfl, hb'.out, VK.val rfl rfl, trivial⟩ | exact ⟨_, rfl, hb'.out, VK.val rfl rfl⟩
   · intro ys done W aa hE hn hF hD hZ hG hO
     replace hE : Below w1.heap.size w1 W := hE
     go_wp2_with fail
     first | exact ⟨_, rfl, (Below.refl _ _).alloc (Nat.le_refl _) _, VK.of rfl ⟨_, rfl, hE.size, At.new _ _ _⟩, trivial⟩ | exact ⟨_, rfl, (Below.refl _ _).alloc (Nat.le_refl _) _, VK.of rfl ⟨_, rfl, hE.size, At.new _ _ _⟩⟩
   · intro ys done W aa hE hn hF hD hZ hG hO
     replace hE : Below w1.heap.size w1 W := hE
     have v3 := (hF 3 (by decide) (hD 3 (by kernel_rfl))).get rfl
     have g3 := hG 3 12 rfl (Nat.le_of_ble_eq_true rfl)
     go_wp2_with fail
     first | exact ⟨_, rfl, Below.refl _ _, VK.of rfl v3, trivial⟩ | exact ⟨_, rfl, Below.refl _ _, VK.of rfl v3⟩
  case hQA =>
   intro ys w6 hE hF _
   replace hE : Below w1.heap.size w1 w6 := hE
   have v7 := (hF 7 (by decide)).eq rfl
   have v3 := (hF 9 (by decide)).get rfl
   have v8 := (hF 8 (by decide)).get rfl
   obtain ⟨g6, e8, hg6, hA6⟩ := v8
   obtain ⟨u, hu⟩ : ∃ u, ys 9 = u := ⟨_, rfl⟩
   rw [hu] at v3
   have hgd := Lib.hid (hg1.out.on hE)
   have hB6 := Lib.hid (hB'.out.trans (hE.mono hB'.out.size))
   have hw6 : w.heap.size ≤ g6 := by have := hB'.out.size; omega
   have v3' := Lib.hid v3
   simp only [List.take_succ_cons, List.take_zero, List.drop_succ_cons, List.drop_zero, Sched.fill, v7, e8, hu]
   have z0 := hA6.cell 0
   have z1 := hA6.cell 1
   have z2 := hA6.cell 2
   have zf := hA6.free
   simp at z0 z1 z2
   have hgi := hA6.inside
   have hA7 := put3 (y0 := .int .i64 F1) (y1 := .int .i64 F2) (y2 := .int .i64 F3) hA6
   have hB7 := Lib.hid (below3 (g := g6) (y0 := .int .i64 F1) (y1 := .int .i64 F2) (y2 := .int .i64 F3) hB6.out hw6)
   have hE7 : Hid (ErrAt (((w6.setCell ⟨g6, 0, none⟩ (.int .i64 F1)).setCell ⟨g6, 1, none⟩ (.int .i64 F2)).setCell ⟨g6, 2, none⟩ (.int .i64 F3)) u (F1, F2, F3)) := Lib.hid (by
     rcases v3'.out with ⟨h1, h2⟩ | ⟨h1, q1, h2, h3⟩
     · exact .inl ⟨h1, h2⟩
     · by_cases hne : q1 = g6
       · subst hne
         exact .inr ⟨h1, q1, h2, hA7⟩
       · exact .inr ⟨h1, q1, h2, ((h3.far hne 0 _).far hne 1 _).far hne 2 _⟩)
   have hg7 : Hid (Hd (((w6.setCell ⟨g6, 0, none⟩ (.int .i64 F1)).setCell ⟨g6, 1, none⟩ (.int .i64 F2)).setCell ⟨g6, 2, none⟩ (.int .i64 F3))) := Lib.hid (hg1.out.on (below3 hE hg6))
   have hq7 : q + 0 < g6 := by omega
   have hA7' := Lib.hid hA7
   clear v3 v7 e8 hu hF hE hA6
   go_simp
   go_upto_region 2 with fail
   generalize ((w6.setCell ⟨g6, 0, none⟩ (.int .i64 F1)).setCell ⟨g6, 1, none⟩ (.int .i64 F2)).setCell ⟨g6, 2, none⟩ (.int .i64 F3) = w7 at *
   have z0 := hA7.cell 0
   have z1 := hA7.cell 1
   have z2 := hA7.cell 2
   simp at z0 z1 z2
   clear zf hA7
   rcases hE7.out with ⟨h1, rfl⟩ | ⟨h1, q1, rfl, hq1⟩
   · simp only at h1
     subst h1
     go_wp2
     go_ret
     exact ⟨rfl, hB7.out⟩
   · have h2 : (F1 == 0) = false := by simpa using h1
     have h3 : (F1 != 0) = true := by simpa using h1
     have hT := fun d os => Calls.regrown_of (Told_any _ (F1, F2, F3) (grow (redrawn w7 d) os) (hg7.out.on (below_regrown w7 d os)) (hE7.out.on (below_regrown w7 d os)) hfc.out)
     have k0 := cell_regrown z0
     have k1 := cell_regrown z1
     have k2 := cell_regrown z2
     clear h1 hq1
     go_upto_region 4 with fail
     refine wp_region_quiet_below (by kernel_rfl) (by kernel_rfl) ?_
     repeat (go_big_quiet_step (with_reducible exact hT _ _))
     refine wpQuiet_nil ?_
     intro _ hw'
     obtain ⟨⟨dq, osq⟩, hw''⟩ := hw'
     subst hw''
     have hBf := hB7.out.trans ((below_regrown w7 dq osq).mono hB7.out.size)
     go_wp2
     go_ret
     exact ⟨rfl, hBf⟩

end Go.Proofs.YteefkijmodcijaaDoor.Feas

import Derived.Test.YteefkijmodcijaaDoorPkFeasWorks

/-
  'works': the chapter's examples hold.
-/
namespace Go.Proofs.YteefkijmodcijaaDoor.Feas
open Go.RowKit Go.Sort Go.Proofs.YteefkijmodcijaaDoor.Mem Go.Proofs.YteefkijmodcijaaDoor.Route Go.Proofs.YteefkijmodcijaaDoor.When Go.Proofs.YteefkijmodcijaaDoor.Load Go.Proofs.YteefkijmodcijaaDoor.Float Go.Proofs.YteefkijmodcijaaDoor.Tail Go.Proofs.YteefkijmodcijaaDoor.Place
set_option linter.unusedVariables false

def vS : Vh := ⟨0, 0, 2, 0, 40⟩
def vH : Vh := ⟨0, 0, 5, 0, 19⟩
def qL : Rq := ⟨5, 0, 9, 0, 0, 4, 0, 30, 3, 1⟩
theorem kW1 : faultV vC lC tC = (0, 0, 0) := by decide +kernel
theorem kW2 : faultV vC [(0, 1)] tC = (8, 2, 0) := by decide +kernel
theorem kW3 : faultV vC [(0, 0)] tC = (8, 3, 1) := by decide +kernel
theorem kW4 : faultV vS lC tC = (10, 2, 0) := by decide +kernel
theorem kW5 : faultV vC lC [qL] = (9, 2, 0) := by decide +kernel
theorem kW6 : faultV vH lC tC = (9, 3, 2) := by decide +kernel
theorem kT1 : rightB vC lC tC [⟨5, 5, 6⟩, ⟨10, 10, 11⟩] = true := by decide +kernel
theorem kT2 : rightB vC lC tC [⟨5, 7, 8⟩, ⟨12, 12, 13⟩] = true := by decide +kernel
theorem kT3 : rightB vC lC tC [⟨4, 5, 6⟩, ⟨10, 10, 11⟩] = false := by decide +kernel
theorem kT4 : rightB vC lC tC [⟨5, 5, 7⟩, ⟨11, 11, 12⟩] = false := by decide +kernel
theorem kT5 : rightB vC lC tC [⟨5, 5, 6⟩] = false := by decide +kernel
theorem errK (f : Int × Int × Int) {v : Value} {w w' : World} (h : ErrAt w v f) (hb : Below w.heap.size w w') : ErrAt w' v f := h.on hb
theorem lC_nums : Nums lC := nums_of (by decide +kernel)

set_option maxRecDepth 100000 in
set_option maxHeartbeats 4000000 in
theorem works_any (w : World) (hg : Hd w) : Calls Tryd.prog 16 #[] w fun e w' => e = .returned (.bool true) ∧ Below w.heap.size w w' := by
  go_enter Tryd.func16, Tryd.ntmps16
  go_wp2_with fail
  refine (chapter_any w).mono ?_
  rintro e w1 ⟨⟨gl, gt, rfl, hL, hT⟩, hB1⟩
  obtain ⟨q, hq⟩ : ∃ q, w1.heap.size = q := ⟨_, rfl⟩
  obtain ⟨w2, hw2⟩ : ∃ w2, w1.alloc (.cells #[.int .i64 0, .int .i64 0, .int .i64 5, .int .i64 0, .int .i64 40] 34) = w2 := ⟨_, rfl⟩
  have hV : At w2 q 34 #[.int .i64 0, .int .i64 0, .int .i64 5, .int .i64 0, .int .i64 40] := by rw [← hw2]; exact At.new_ _ _ _ hq.symm
  have hb2 : Below w1.heap.size w1 w2 := by rw [← hw2]; exact (Below.refl _ _).alloc (Nat.le_refl _) _
  have hL2 := hL.keep hb2 hL.inside
  have hT2 := hT.keep hb2 hT.inside
  have hB2 := hB1.trans (hb2.mono hB1.size)
  have hlq : gl < q := by have := hL.inside; omega
  have htq : gt < q := by have := hT.inside; omega
  have hqw : w.heap.size ≤ q := by have := hB1.size; omega
  have hw2' := Lib.hid hw2
  have hq' := Lib.hid hq
  have hg2 := hg.keep hB2 hg.pos
  clear hL hT hB1 hb2 hw2 hq hg
  go_upto_region 2 with fail
  simp only [hq'.out]
  rw [hw2'.out]
  have hqi := hV.inside
  go_cut [4, 5] from 16 to 17 (fun s4 s5 wx => ∃ gs gh, s4 = .pointer (some ⟨gs, 0, none⟩) ∧ s5 = .pointer (some ⟨gh, 0, none⟩) ∧ gs ≠ gh ∧ w2.heap.size ≤ gs ∧ w2.heap.size ≤ gh ∧ At wx gs 34 #[.int .i64 0, .int .i64 0, .int .i64 5, .int .i64 0, .int .i64 40] ∧ At wx gh 34 #[.int .i64 0, .int .i64 0, .int .i64 5, .int .i64 0, .int .i64 40] ∧ Below w2.heap.size w2 wx)
  case first =>
    have c0 := hV.cell 0
    have c1 := hV.cell 1
    have c2 := hV.cell 2
    have c3 := hV.cell 3
    have c4 := hV.cell 4
    simp at c0 c1 c2 c3 c4
    go_region
    all_goals
      go_wp2_with fail
      go_meet
      refine ⟨_, _, rfl, rfl, by simp, by simp, by simp, ?_, ?_, ?_⟩
      · repeat (first | (with_reducible refine At.new_ _ _ _ ?_; simp; done) | with_reducible refine At.far ?_ (by simp <;> omega) _ _ | with_reducible refine At.drew ?_ | with_reducible refine At.alloc ?_ _)
      · repeat (first | (with_reducible refine At.new_ _ _ _ ?_; simp; done) | with_reducible refine At.far ?_ (by simp <;> omega) _ _ | with_reducible refine At.drew ?_ | with_reducible refine At.alloc ?_ _)
      · repeat (first | with_reducible refine Below.drew ?_ | with_reducible refine Below.setCell ?_ (by simp) _ | with_reducible refine Below.alloc ?_ (by simp <;> omega) _ | with_reducible exact Below.refl _ _)
  case rest =>
    obtain ⟨gs, gh, rfl, rfl, hne, hgs, hgh, hS, hH, hb3⟩ := hcut
    obtain ⟨w3, rfl⟩ : ∃ w3, w3 = wc := ⟨_, rfl⟩
    have hV3 := hV.keep hb3 hqi
    have hL3 := hL2.keep hb3 hL2.inside
    have hT3 := hT2.keep hb3 hT2.inside
    have hB3 := hB2.trans (hb3.mono hB2.size)
    have hg3 := hg2.keep hb3 hg2.pos
    have hgp := hg2.pos
    have hgpw : 1 < w2.heap.size := hgp
    clear hb3 hV hL2 hT2 hB2 hg2
    have s2 := hS.cell 2
    have sf := hS.free
    have h4 := hH.cell 4
    have hf := hH.free
    have t0 := hT3.cell 0
    have t1 := hT3.cell 1
    have t2 := hT3.cell 2
    have t3 := hT3.cell 3
    have t4 := hT3.cell 4
    have t5 := hT3.cell 5
    have t6 := hT3.cell 6
    have t7 := hT3.cell 7
    have t8 := hT3.cell 8
    have t9 := hT3.cell 9
    simp at s2 h4 t0 t1 t2 t3 t4 t5 t6 t7 t8 t9
    have hltq : q < gs ∧ q < gh := by omega
    go_upto_region 5 with fail
    have hS4 : At ((w3.setCell ⟨gs, 2, none⟩ (.int .i64 2)).setCell ⟨gh, 4, none⟩ (.int .i64 19)) gs 34 #[.int .i64 0, .int .i64 0, .int .i64 2, .int .i64 0, .int .i64 40] := by simpa using (hS.put 2 (.int .i64 2)).far hne 4 (.int .i64 19)
    have hH4 : At ((w3.setCell ⟨gs, 2, none⟩ (.int .i64 2)).setCell ⟨gh, 4, none⟩ (.int .i64 19)) gh 34 #[.int .i64 0, .int .i64 0, .int .i64 5, .int .i64 0, .int .i64 19] := by simpa using (hH.far hne.symm 2 (.int .i64 2)).put 4 (.int .i64 19)
    have hV4 := (hV3.far (b := gs) (by omega) 2 (.int .i64 2)).far (b := gh) (by omega) 4 (.int .i64 19)
    have hL4 := (hL3.far (b := gs) (by omega) 2 (.int .i64 2)).far (b := gh) (by omega) 4 (.int .i64 19)
    have hT4 := (hT3.far (b := gs) (by omega) 2 (.int .i64 2)).far (b := gh) (by omega) 4 (.int .i64 19)
    have hB4 := (hB3.setCell (p := ⟨gs, 2, none⟩) (by simp; omega) (.int .i64 2)).setCell (p := ⟨gh, 4, none⟩) (by simp; omega) (.int .i64 19)
    have hg4 : Hd ((w3.setCell ⟨gs, 2, none⟩ (.int .i64 2)).setCell ⟨gh, 4, none⟩ (.int .i64 19)) := hg3.keep (((Below.refl w2.heap.size w3).setCell (p := ⟨gs, 2, none⟩) hgs _).setCell (p := ⟨gh, 4, none⟩) hgh _) hgpw
    clear s2 sf h4 hf t0 t1 t2 t3 t4 t5 t6 t7 t8 t9 hV3 hL3 hT3 hB3 hg3 hS hH
    generalize (w3.setCell ⟨gs, 2, none⟩ (.int .i64 2)).setCell ⟨gh, 4, none⟩ (.int .i64 19) = w4 at *
    have t0 := hT4.cell 0
    have t1 := hT4.cell 1
    have t2 := hT4.cell 2
    have t3 := hT4.cell 3
    have t4 := hT4.cell 4
    have t5 := hT4.cell 5
    have t6 := hT4.cell 6
    have t7 := hT4.cell 7
    have t8 := hT4.cell 8
    have t9 := hT4.cell 9
    simp at t0 t1 t2 t3 t4 t5 t6 t7 t8 t9
    go_upto_region 7 with fail
    obtain ⟨gq, hgq⟩ : ∃ gq, w4.heap.size = gq := ⟨_, rfl⟩
    obtain ⟨w5, hw5⟩ : ∃ w5, w4.alloc (.cells #[.int .i64 5, .int .i64 0, .int .i64 9, .int .i64 0, .int .i64 0, .int .i64 4, .int .i64 0, .int .i64 30, .int .i64 3, .int .i64 1] 62) = w5 := ⟨_, rfl⟩
    have hQ5 : At w5 gq 62 #[.int .i64 5, .int .i64 0, .int .i64 9, .int .i64 0, .int .i64 0, .int .i64 4, .int .i64 0, .int .i64 30, .int .i64 3, .int .i64 1] := by rw [← hw5]; exact At.new_ _ _ _ hgq.symm
    have hb5 : Below w4.heap.size w4 w5 := by rw [← hw5]; exact (Below.refl _ _).alloc (Nat.le_refl _) _
    have hS5 := hS4.keep hb5 hS4.inside
    have hH5 := hH4.keep hb5 hH4.inside
    have hV5 := hV4.keep hb5 hV4.inside
    have hL5 := hL4.keep hb5 hL4.inside
    have hT5 := hT4.keep hb5 hT4.inside
    have hB5 := hB4.trans (hb5.mono hB4.size)
    have hg5 := hg4.on hb5
    simp only [hgq]
    rw [hw5]
    clear t0 t1 t2 t3 t4 t5 t6 t7 t8 t9 hS4 hH4 hV4 hL4 hT4 hB4 hg4 hb5 hw5 hgq hw2' hq' hne hgs hgh hltq hgp hgpw hqi
    refine Sched.wp_region_sched 46 (fun W W' => Below W.heap.size W W') (VK [.val (.agg #[.int .i64 0, .int .i64 0, .int .i64 5, .int .i64 0, .int .i64 40]), .val (.slice (some ⟨gl, 0, none⟩) 2 2), .val (.slice (some ⟨gt, 0, none⟩) 1 1), .val (.nilIface), .val (.bool false), .val (.bool false), .val (.agg #[.int .i64 0, .int .i64 0, .int .i64 5, .int .i64 0, .int .i64 40]), .val (.slice (some ⟨gl, 0, none⟩) 2 2), .val (.slice (some ⟨gl, 2, none⟩) 1 1), .val (.slice (some ⟨gt, 0, none⟩) 1 1), .of (fun v w => ErrAt w v (8, 2, 0)) (fun h hb => ErrAt.on h hb), .val (.bool true), .val (.bool false), .val (.bool false), .val (.bool false), .val (.agg #[.int .i64 0, .int .i64 0, .int .i64 5, .int .i64 0, .int .i64 40]), .val (.slice (some ⟨gl, 0, none⟩) 2 2), .val (.slice (some ⟨gl, 0, none⟩) 1 2), .val (.slice (some ⟨gt, 0, none⟩) 1 1), .of (fun v w => ErrAt w v (8, 3, 1)) (fun h hb => ErrAt.on h hb), .val (.bool true), .val (.bool false), .val (.bool false), .val (.bool false), .val (.agg #[.int .i64 0, .int .i64 0, .int .i64 2, .int .i64 0, .int .i64 40]), .val (.slice (some ⟨gl, 0, none⟩) 2 2), .val (.slice (some ⟨gt, 0, none⟩) 1 1), .of (fun v w => ErrAt w v (10, 2, 0)) (fun h hb => ErrAt.on h hb), .val (.bool true), .val (.bool false), .val (.bool false), .val (.bool false), .val (.agg #[.int .i64 0, .int .i64 0, .int .i64 5, .int .i64 0, .int .i64 40]), .val (.slice (some ⟨gl, 0, none⟩) 2 2), .val (.slice (some ⟨gq, 0, none⟩) 1 1), .of (fun v w => ErrAt w v (9, 2, 0)) (fun h hb => ErrAt.on h hb), .val (.bool true), .val (.bool false), .val (.bool false), .val (.bool false), .val (.agg #[.int .i64 0, .int .i64 0, .int .i64 5, .int .i64 0, .int .i64 19]), .val (.slice (some ⟨gl, 0, none⟩) 2 2), .val (.slice (some ⟨gt, 0, none⟩) 1 1), .of (fun v w => ErrAt w v (9, 3, 2)) (fun h hb => ErrAt.on h hb), .val (.bool true), .val (.bool false)]) (fun _ _ _ => True) (by kernel_rfl) (by kernel_rfl) (by kernel_rfl) (fun h1 h2 => belowTr h1 h2) (fun h1 h2 => VK.keep h1 h2) (Below.refl _ _).drew (fun _ => trivial) (Sched.StepsA.steps (by kernel_rfl) ?hS7) ?hQ7
    case hS7 =>
     simp only [List.take_succ_cons, List.take_zero]
     refine ⟨?_, ?_, ?_, ?_, ?_, ?_, ?_, ?_, ?_, ?_, ?_, ?_, ?_, ?_, ?_, ?_, ?_, ?_, ?_, ?_, ?_, ?_, ?_, ?_, ?_, ?_, ?_, ?_, ?_, ?_, ?_, ?_, ?_, ?_, ?_, ?_, ?_, ?_, ?_, ?_, ?_, ?_, ?_, ?_, ?_, ?_, trivial⟩
     · intro ys done W aa hE hn hF hD hZ hG hO
       replace hE : Below w5.heap.size w5 W := hE
       have o1 := hO 1 (by kernel_rfl)
       replace o1 : aa.tmps[1]? = some (.pointer (some ⟨q, 0, none⟩)) := o1
       have hAt := hV5.keep hE hV5.inside
       have p0 := hAt.cell 0
       have p1 := hAt.cell 1
       have p2 := hAt.cell 2
       have p3 := hAt.cell 3
       have p4 := hAt.cell 4
       simp at p0 p1 p2 p3 p4
       clear hAt
       go_wp2_with fail
       first | exact ⟨_, rfl, Below.refl _ _, VK.val rfl rfl, trivial⟩ | exact ⟨_, rfl, Below.refl _ _, VK.val rfl rfl⟩
     · intro ys done W aa hE hn hF hD hZ hG hO
       replace hE : Below w5.heap.size w5 W := hE
       have o2 := hO 2 (by kernel_rfl)
       replace o2 : aa.tmps[2]? = some (.slice (some ⟨gl, 0, none⟩) 2 2) := o2
       go_wp2_with fail
       first | exact ⟨_, rfl, Below.refl _ _, VK.val rfl rfl, trivial⟩ | exact ⟨_, rfl, Below.refl _ _, VK.val rfl rfl⟩
     · intro ys done W aa hE hn hF hD hZ hG hO
       replace hE : Below w5.heap.size w5 W := hE
       have o3 := hO 3 (by kernel_rfl)
       replace o3 : aa.tmps[3]? = some (.slice (some ⟨gt, 0, none⟩) 1 1) := o3
       go_wp2_with fail
       first | exact ⟨_, rfl, Below.refl _ _, VK.val rfl rfl, trivial⟩ | exact ⟨_, rfl, Below.refl _ _, VK.val rfl rfl⟩
     · intro ys done W aa hE hn hF hD hZ hG hO
       replace hE : Below w5.heap.size w5 W := hE
       have v0 := (hF 0 (by decide) (hD 0 (by kernel_rfl))).eq rfl
       have g0 := hG 0 28 rfl (Nat.le_of_ble_eq_true rfl)
       rw [v0] at g0
       have v1 := (hF 1 (by decide) (hD 1 (by kernel_rfl))).eq rfl
       have g1 := hG 1 29 rfl (Nat.le_of_ble_eq_true rfl)
       rw [v1] at g1
       have v2 := (hF 2 (by decide) (hD 2 (by kernel_rfl))).eq rfl
       have g2 := hG 2 30 rfl (Nat.le_of_ble_eq_true rfl)
       rw [v2] at g2
       go_wp2_with fail
       refine (Check_any vC _ _ lC tC (by decide) (nums_of (by decide +kernel)) W (Row.laid2 (hL5.keep hE hL5.inside)) (Rqs.laid1 (q := qC) (hT5.keep hE hT5.inside))).mono ?_
       rintro e W' ⟨⟨u, rfl, hu⟩, hb'⟩
       rw [kW1] at hu
       obtain rfl := errAt_no hu rfl
       clear hu
       replace hb' := Lib.hid hb'
       go_wp2_with fail
       first | exact ⟨_, rfl, hb'.out, VK.val rfl rfl, trivial⟩ | exact ⟨_, rfl, hb'.out, VK.val rfl rfl⟩
     · intro ys done W aa hE hn hF hD hZ hG hO
       replace hE : Below w5.heap.size w5 W := hE
       have v3 := (hF 3 (by decide) (hD 3 (by kernel_rfl))).eq rfl
       have g3 := hG 3 31 rfl (Nat.le_of_ble_eq_true rfl)
       rw [v3] at g3
       go_wp2_with fail
       first | exact ⟨_, rfl, Below.refl _ _, VK.val rfl rfl, trivial⟩ | exact ⟨_, rfl, Below.refl _ _, VK.val rfl rfl⟩
     · intro ys done W aa hE hn hF hD hZ hG hO
       replace hE : Below w5.heap.size w5 W := hE
       have v4 := (hF 4 (by decide) (hD 4 (by kernel_rfl))).eq rfl
       have g4 := hG 4 32 rfl (Nat.le_of_ble_eq_true rfl)
       rw [v4] at g4
       go_wp2_with fail
       first | exact ⟨_, rfl, Below.refl _ _, VK.val rfl rfl, trivial⟩ | exact ⟨_, rfl, Below.refl _ _, VK.val rfl rfl⟩
     · intro ys done W aa hE hn hF hD hZ hG hO
       replace hE : Below w5.heap.size w5 W := hE
       have v5 := (hF 5 (by decide) (hD 5 (by kernel_rfl))).eq rfl
       have g5 := hG 5 33 rfl (Nat.le_of_ble_eq_true rfl)
       rw [v5] at g5
       refine BigFrame.wpList_want (by simp [Region.wanted, yielded, g5]) ?_
       intro K hK
       have o1 := hO 1 (by kernel_rfl)
       replace o1 : aa.tmps[1]? = some (.pointer (some ⟨q, 0, none⟩)) := o1
       have hAt := hV5.keep hE hV5.inside
       have p0 := hAt.cell 0
       have p1 := hAt.cell 1
       have p2 := hAt.cell 2
       have p3 := hAt.cell 3
       have p4 := hAt.cell 4
       simp at p0 p1 p2 p3 p4
       clear hAt
       go_wp2_with fail
       first | exact ⟨_, rfl, Below.refl _ _, VK.val rfl rfl, trivial⟩ | exact ⟨_, rfl, Below.refl _ _, VK.val rfl rfl⟩
     · intro ys done W aa hE hn hF hD hZ hG hO
       replace hE : Below w5.heap.size w5 W := hE
       have v5 := (hF 5 (by decide) (hD 5 (by kernel_rfl))).eq rfl
       have g5 := hG 5 33 rfl (Nat.le_of_ble_eq_true rfl)
       rw [v5] at g5
       refine BigFrame.wpList_want (by simp [Region.wanted, yielded, g5]) ?_
       intro K hK
       have o2 := hO 2 (by kernel_rfl)
       replace o2 : aa.tmps[2]? = some (.slice (some ⟨gl, 0, none⟩) 2 2) := o2
       go_wp2_with fail
       first | exact ⟨_, rfl, Below.refl _ _, VK.val rfl rfl, trivial⟩ | exact ⟨_, rfl, Below.refl _ _, VK.val rfl rfl⟩
     · intro ys done W aa hE hn hF hD hZ hG hO
       replace hE : Below w5.heap.size w5 W := hE
       have v5 := (hF 5 (by decide) (hD 5 (by kernel_rfl))).eq rfl
       have g5 := hG 5 33 rfl (Nat.le_of_ble_eq_true rfl)
       rw [v5] at g5
       refine BigFrame.wpList_want (by simp [Region.wanted, yielded, g5]) ?_
       intro K hK
       have v7 := (hF 7 (by decide) (hD 7 (by kernel_rfl))).eq rfl
       have g7 := hG 7 35 rfl (Nat.le_of_ble_eq_true rfl)
       rw [v7] at g7
       go_wp2_with fail
       first | exact ⟨_, rfl, Below.refl _ _, VK.val rfl rfl, trivial⟩ | exact ⟨_, rfl, Below.refl _ _, VK.val rfl rfl⟩
     · intro ys done W aa hE hn hF hD hZ hG hO
       replace hE : Below w5.heap.size w5 W := hE
       have v5 := (hF 5 (by decide) (hD 5 (by kernel_rfl))).eq rfl
       have g5 := hG 5 33 rfl (Nat.le_of_ble_eq_true rfl)
       rw [v5] at g5
       refine BigFrame.wpList_want (by simp [Region.wanted, yielded, g5]) ?_
       intro K hK
       have o3 := hO 3 (by kernel_rfl)
       replace o3 : aa.tmps[3]? = some (.slice (some ⟨gt, 0, none⟩) 1 1) := o3
       go_wp2_with fail
       first | exact ⟨_, rfl, Below.refl _ _, VK.val rfl rfl, trivial⟩ | exact ⟨_, rfl, Below.refl _ _, VK.val rfl rfl⟩
     · intro ys done W aa hE hn hF hD hZ hG hO
       replace hE : Below w5.heap.size w5 W := hE
       have v5 := (hF 5 (by decide) (hD 5 (by kernel_rfl))).eq rfl
       have g5 := hG 5 33 rfl (Nat.le_of_ble_eq_true rfl)
       rw [v5] at g5
       refine BigFrame.wpList_want (by simp [Region.wanted, yielded, g5]) ?_
       intro K hK
       have v6 := (hF 6 (by decide) (hD 6 (by kernel_rfl))).eq rfl
       have g6 := hG 6 34 rfl (Nat.le_of_ble_eq_true rfl)
       rw [v6] at g6
       have v8 := (hF 8 (by decide) (hD 8 (by kernel_rfl))).eq rfl
       have g8 := hG 8 36 rfl (Nat.le_of_ble_eq_true rfl)
       rw [v8] at g8
       have v9 := (hF 9 (by decide) (hD 9 (by kernel_rfl))).eq rfl
       have g9 := hG 9 37 rfl (Nat.le_of_ble_eq_true rfl)
       rw [v9] at g9
       go_wp2_with fail
       refine (Check_any vC _ _ [(0, 1)] tC (by decide) (nums_of (by decide +kernel)) W (Row.laid22 (hL5.keep hE hL5.inside)) (Rqs.laid1 (q := qC) (hT5.keep hE hT5.inside))).mono ?_
       rintro e W' ⟨⟨u, rfl, hu⟩, hb'⟩
       rw [kW2] at hu
       replace hb' := Lib.hid hb'
       replace hu := Lib.hid hu
       go_wp2_with fail
       first | exact ⟨_, rfl, hb'.out, VK.of rfl hu.out, trivial⟩ | exact ⟨_, rfl, hb'.out, VK.of rfl hu.out⟩
     · intro ys done W aa hE hn hF hD hZ hG hO
       replace hE : Below w5.heap.size w5 W := hE
       have v5 := (hF 5 (by decide) (hD 5 (by kernel_rfl))).eq rfl
       have g5 := hG 5 33 rfl (Nat.le_of_ble_eq_true rfl)
       rw [v5] at g5
       refine BigFrame.wpList_want (by simp [Region.wanted, yielded, g5]) ?_
       intro K hK
       have v10 := (hF 10 (by decide) (hD 10 (by kernel_rfl))).get rfl
       have g10 := hG 10 38 rfl (Nat.le_of_ble_eq_true rfl)
       have hGW := hg5.on hE
       go_wp2_with fail
       refine (told_yes _ 8 2 0 _ hGW v10 (by decide)).mono ?_
       rintro e W' ⟨rfl, hb'⟩
       replace hb' := Lib.hid hb'
       go_wp2_with fail
       first | exact ⟨_, rfl, hb'.out, VK.val rfl rfl, trivial⟩ | exact ⟨_, rfl, hb'.out, VK.val rfl rfl⟩
     · intro ys done W aa hE hn hF hD hZ hG hO
       replace hE : Below w5.heap.size w5 W := hE
       have v5 := (hF 5 (by decide) (hD 5 (by kernel_rfl))).eq rfl
       have g5 := hG 5 33 rfl (Nat.le_of_ble_eq_true rfl)
       rw [v5] at g5
       refine BigFrame.wpList_want (by simp [Region.wanted, yielded, g5]) ?_
       intro K hK
       have v11 := (hF 11 (by decide) (hD 11 (by kernel_rfl))).eq rfl
       have g11 := hG 11 39 rfl (Nat.le_of_ble_eq_true rfl)
       rw [v11] at g11
       go_wp2_with fail
       first | exact ⟨_, rfl, Below.refl _ _, VK.val rfl rfl, trivial⟩ | exact ⟨_, rfl, Below.refl _ _, VK.val rfl rfl⟩
     · intro ys done W aa hE hn hF hD hZ hG hO
       replace hE : Below w5.heap.size w5 W := hE
       have v5 := (hF 5 (by decide) (hD 5 (by kernel_rfl))).eq rfl
       have g5 := hG 5 33 rfl (Nat.le_of_ble_eq_true rfl)
       rw [v5] at g5
       have v12 := (hF 12 (by decide) (hD 12 (by kernel_rfl))).eq rfl
       have g12 := hG 12 40 rfl (Nat.le_of_ble_eq_true rfl)
       rw [v12] at g12
       go_wp2_with fail
       first | exact ⟨_, rfl, Below.refl _ _, VK.val rfl rfl, trivial⟩ | exact ⟨_, rfl, Below.refl _ _, VK.val rfl rfl⟩
     · intro ys done W aa hE hn hF hD hZ hG hO
       replace hE : Below w5.heap.size w5 W := hE
       have v13 := (hF 13 (by decide) (hD 13 (by kernel_rfl))).eq rfl
       have g13 := hG 13 41 rfl (Nat.le_of_ble_eq_true rfl)
       rw [v13] at g13
       go_wp2_with fail
       first | exact ⟨_, rfl, Below.refl _ _, VK.val rfl rfl, trivial⟩ | exact ⟨_, rfl, Below.refl _ _, VK.val rfl rfl⟩
     · intro ys done W aa hE hn hF hD hZ hG hO
       replace hE : Below w5.heap.size w5 W := hE
       have v14 := (hF 14 (by decide) (hD 14 (by kernel_rfl))).eq rfl
       have g14 := hG 14 42 rfl (Nat.le_of_ble_eq_true rfl)
       rw [v14] at g14
       refine BigFrame.wpList_want (by simp [Region.wanted, yielded, g14]) ?_
       intro K hK
       have o1 := hO 1 (by kernel_rfl)
       replace o1 : aa.tmps[1]? = some (.pointer (some ⟨q, 0, none⟩)) := o1
       have hAt := hV5.keep hE hV5.inside
       have p0 := hAt.cell 0
       have p1 := hAt.cell 1
       have p2 := hAt.cell 2
       have p3 := hAt.cell 3
       have p4 := hAt.cell 4
       simp at p0 p1 p2 p3 p4
       clear hAt
       go_wp2_with fail
       first | exact ⟨_, rfl, Below.refl _ _, VK.val rfl rfl, trivial⟩ | exact ⟨_, rfl, Below.refl _ _, VK.val rfl rfl⟩
     · intro ys done W aa hE hn hF hD hZ hG hO
       replace hE : Below w5.heap.size w5 W := hE
       have v14 := (hF 14 (by decide) (hD 14 (by kernel_rfl))).eq rfl
       have g14 := hG 14 42 rfl (Nat.le_of_ble_eq_true rfl)
       rw [v14] at g14
       refine BigFrame.wpList_want (by simp [Region.wanted, yielded, g14]) ?_
       intro K hK
       have o2 := hO 2 (by kernel_rfl)
       replace o2 : aa.tmps[2]? = some (.slice (some ⟨gl, 0, none⟩) 2 2) := o2
       go_wp2_with fail
       first | exact ⟨_, rfl, Below.refl _ _, VK.val rfl rfl, trivial⟩ | exact ⟨_, rfl, Below.refl _ _, VK.val rfl rfl⟩
     · intro ys done W aa hE hn hF hD hZ hG hO
       replace hE : Below w5.heap.size w5 W := hE
       have v14 := (hF 14 (by decide) (hD 14 (by kernel_rfl))).eq rfl
       have g14 := hG 14 42 rfl (Nat.le_of_ble_eq_true rfl)
       rw [v14] at g14
       refine BigFrame.wpList_want (by simp [Region.wanted, yielded, g14]) ?_
       intro K hK
       have v16 := (hF 16 (by decide) (hD 16 (by kernel_rfl))).eq rfl
       have g16 := hG 16 44 rfl (Nat.le_of_ble_eq_true rfl)
       rw [v16] at g16
       go_wp2_with fail
       first | exact ⟨_, rfl, Below.refl _ _, VK.val rfl rfl, trivial⟩ | exact ⟨_, rfl, Below.refl _ _, VK.val rfl rfl⟩
     · intro ys done W aa hE hn hF hD hZ hG hO
       replace hE : Below w5.heap.size w5 W := hE
       have v14 := (hF 14 (by decide) (hD 14 (by kernel_rfl))).eq rfl
       have g14 := hG 14 42 rfl (Nat.le_of_ble_eq_true rfl)
       rw [v14] at g14
       refine BigFrame.wpList_want (by simp [Region.wanted, yielded, g14]) ?_
       intro K hK
       have o3 := hO 3 (by kernel_rfl)
       replace o3 : aa.tmps[3]? = some (.slice (some ⟨gt, 0, none⟩) 1 1) := o3
       go_wp2_with fail
       first | exact ⟨_, rfl, Below.refl _ _, VK.val rfl rfl, trivial⟩ | exact ⟨_, rfl, Below.refl _ _, VK.val rfl rfl⟩
     · intro ys done W aa hE hn hF hD hZ hG hO
       replace hE : Below w5.heap.size w5 W := hE
       have v14 := (hF 14 (by decide) (hD 14 (by kernel_rfl))).eq rfl
       have g14 := hG 14 42 rfl (Nat.le_of_ble_eq_true rfl)
       rw [v14] at g14
       refine BigFrame.wpList_want (by simp [Region.wanted, yielded, g14]) ?_
       intro K hK
       have v15 := (hF 15 (by decide) (hD 15 (by kernel_rfl))).eq rfl
       have g15 := hG 15 43 rfl (Nat.le_of_ble_eq_true rfl)
       rw [v15] at g15
       have v17 := (hF 17 (by decide) (hD 17 (by kernel_rfl))).eq rfl
       have g17 := hG 17 45 rfl (Nat.le_of_ble_eq_true rfl)
       rw [v17] at g17
       have v18 := (hF 18 (by decide) (hD 18 (by kernel_rfl))).eq rfl
       have g18 := hG 18 46 rfl (Nat.le_of_ble_eq_true rfl)
       rw [v18] at g18
       go_wp2_with fail
       refine (Check_any vC _ _ [(0, 0)] tC (by decide) (nums_of (by decide +kernel)) W (Row.laid21 (hL5.keep hE hL5.inside)) (Rqs.laid1 (q := qC) (hT5.keep hE hT5.inside))).mono ?_
       rintro e W' ⟨⟨u, rfl, hu⟩, hb'⟩
       rw [kW3] at hu
       replace hb' := Lib.hid hb'
       replace hu := Lib.hid hu
       go_wp2_with fail
       first | exact ⟨_, rfl, hb'.out, VK.of rfl hu.out, trivial⟩ | exact ⟨_, rfl, hb'.out, VK.of rfl hu.out⟩
     · intro ys done W aa hE hn hF hD hZ hG hO
       replace hE : Below w5.heap.size w5 W := hE
       have v14 := (hF 14 (by decide) (hD 14 (by kernel_rfl))).eq rfl
       have g14 := hG 14 42 rfl (Nat.le_of_ble_eq_true rfl)
       rw [v14] at g14
       refine BigFrame.wpList_want (by simp [Region.wanted, yielded, g14]) ?_
       intro K hK
       have v19 := (hF 19 (by decide) (hD 19 (by kernel_rfl))).get rfl
       have g19 := hG 19 47 rfl (Nat.le_of_ble_eq_true rfl)
       have hGW := hg5.on hE
       go_wp2_with fail
       refine (told_yes _ 8 3 1 _ hGW v19 (by decide)).mono ?_
       rintro e W' ⟨rfl, hb'⟩
       replace hb' := Lib.hid hb'
       go_wp2_with fail
       first | exact ⟨_, rfl, hb'.out, VK.val rfl rfl, trivial⟩ | exact ⟨_, rfl, hb'.out, VK.val rfl rfl⟩
     · intro ys done W aa hE hn hF hD hZ hG hO
       replace hE : Below w5.heap.size w5 W := hE
       have v14 := (hF 14 (by decide) (hD 14 (by kernel_rfl))).eq rfl
       have g14 := hG 14 42 rfl (Nat.le_of_ble_eq_true rfl)
       rw [v14] at g14
       refine BigFrame.wpList_want (by simp [Region.wanted, yielded, g14]) ?_
       intro K hK
       have v20 := (hF 20 (by decide) (hD 20 (by kernel_rfl))).eq rfl
       have g20 := hG 20 48 rfl (Nat.le_of_ble_eq_true rfl)
       rw [v20] at g20
       go_wp2_with fail
       first | exact ⟨_, rfl, Below.refl _ _, VK.val rfl rfl, trivial⟩ | exact ⟨_, rfl, Below.refl _ _, VK.val rfl rfl⟩
     · intro ys done W aa hE hn hF hD hZ hG hO
       replace hE : Below w5.heap.size w5 W := hE
       have v14 := (hF 14 (by decide) (hD 14 (by kernel_rfl))).eq rfl
       have g14 := hG 14 42 rfl (Nat.le_of_ble_eq_true rfl)
       rw [v14] at g14
       have v21 := (hF 21 (by decide) (hD 21 (by kernel_rfl))).eq rfl
       have g21 := hG 21 49 rfl (Nat.le_of_ble_eq_true rfl)
       rw [v21] at g21
       go_wp2_with fail
       first | exact ⟨_, rfl, Below.refl _ _, VK.val rfl rfl, trivial⟩ | exact ⟨_, rfl, Below.refl _ _, VK.val rfl rfl⟩
     · intro ys done W aa hE hn hF hD hZ hG hO
       replace hE : Below w5.heap.size w5 W := hE
       have v22 := (hF 22 (by decide) (hD 22 (by kernel_rfl))).eq rfl
       have g22 := hG 22 50 rfl (Nat.le_of_ble_eq_true rfl)
       rw [v22] at g22
       go_wp2_with fail
       first | exact ⟨_, rfl, Below.refl _ _, VK.val rfl rfl, trivial⟩ | exact ⟨_, rfl, Below.refl _ _, VK.val rfl rfl⟩
     · intro ys done W aa hE hn hF hD hZ hG hO
       replace hE : Below w5.heap.size w5 W := hE
       have v23 := (hF 23 (by decide) (hD 23 (by kernel_rfl))).eq rfl
       have g23 := hG 23 51 rfl (Nat.le_of_ble_eq_true rfl)
       rw [v23] at g23
       refine BigFrame.wpList_want (by simp [Region.wanted, yielded, g23]) ?_
       intro K hK
       have o4 := hO 4 (by kernel_rfl)
       replace o4 : aa.tmps[4]? = some (.pointer (some ⟨gs, 0, none⟩)) := o4
       have hAt := hS5.keep hE hS5.inside
       have p0 := hAt.cell 0
       have p1 := hAt.cell 1
       have p2 := hAt.cell 2
       have p3 := hAt.cell 3
       have p4 := hAt.cell 4
       simp at p0 p1 p2 p3 p4
       clear hAt
       go_wp2_with fail
       first | exact ⟨_, rfl, Below.refl _ _, VK.val rfl rfl, trivial⟩ | exact ⟨_, rfl, Below.refl _ _, VK.val rfl rfl⟩
     · intro ys done W aa hE hn hF hD hZ hG hO
       replace hE : Below w5.heap.size w5 W := hE
       have v23 := (hF 23 (by decide) (hD 23 (by kernel_rfl))).eq rfl
       have g23 := hG 23 51 rfl (Nat.le_of_ble_eq_true rfl)
       rw [v23] at g23
       refine BigFrame.wpList_want (by simp [Region.wanted, yielded, g23]) ?_
       intro K hK
       have o2 := hO 2 (by kernel_rfl)
       replace o2 : aa.tmps[2]? = some (.slice (some ⟨gl, 0, none⟩) 2 2) := o2
       go_wp2_with fail
       first | exact ⟨_, rfl, Below.refl _ _, VK.val rfl rfl, trivial⟩ | exact ⟨_, rfl, Below.refl _ _, VK.val rfl rfl⟩
     · intro ys done W aa hE hn hF hD hZ hG hO
       replace hE : Below w5.heap.size w5 W := hE
       have v23 := (hF 23 (by decide) (hD 23 (by kernel_rfl))).eq rfl
       have g23 := hG 23 51 rfl (Nat.le_of_ble_eq_true rfl)
       rw [v23] at g23
       refine BigFrame.wpList_want (by simp [Region.wanted, yielded, g23]) ?_
       intro K hK
       have o3 := hO 3 (by kernel_rfl)
       replace o3 : aa.tmps[3]? = some (.slice (some ⟨gt, 0, none⟩) 1 1) := o3
       go_wp2_with fail
       first | exact ⟨_, rfl, Below.refl _ _, VK.val rfl rfl, trivial⟩ | exact ⟨_, rfl, Below.refl _ _, VK.val rfl rfl⟩
     · intro ys done W aa hE hn hF hD hZ hG hO
       replace hE : Below w5.heap.size w5 W := hE
       have v23 := (hF 23 (by decide) (hD 23 (by kernel_rfl))).eq rfl
       have g23 := hG 23 51 rfl (Nat.le_of_ble_eq_true rfl)
       rw [v23] at g23
       refine BigFrame.wpList_want (by simp [Region.wanted, yielded, g23]) ?_
       intro K hK
       have v24 := (hF 24 (by decide) (hD 24 (by kernel_rfl))).eq rfl
       have g24 := hG 24 52 rfl (Nat.le_of_ble_eq_true rfl)
       rw [v24] at g24
       have v25 := (hF 25 (by decide) (hD 25 (by kernel_rfl))).eq rfl
       have g25 := hG 25 53 rfl (Nat.le_of_ble_eq_true rfl)
       rw [v25] at g25
       have v26 := (hF 26 (by decide) (hD 26 (by kernel_rfl))).eq rfl
       have g26 := hG 26 54 rfl (Nat.le_of_ble_eq_true rfl)
       rw [v26] at g26
       go_wp2_with fail
       refine (Check_any vS _ _ lC tC (by decide) (nums_of (by decide +kernel)) W (Row.laid2 (hL5.keep hE hL5.inside)) (Rqs.laid1 (q := qC) (hT5.keep hE hT5.inside))).mono ?_
       rintro e W' ⟨⟨u, rfl, hu⟩, hb'⟩
       rw [kW4] at hu
       replace hb' := Lib.hid hb'
       replace hu := Lib.hid hu
       go_wp2_with fail
       first | exact ⟨_, rfl, hb'.out, VK.of rfl hu.out, trivial⟩ | exact ⟨_, rfl, hb'.out, VK.of rfl hu.out⟩
     · intro ys done W aa hE hn hF hD hZ hG hO
       replace hE : Below w5.heap.size w5 W := hE
       have v23 := (hF 23 (by decide) (hD 23 (by kernel_rfl))).eq rfl
       have g23 := hG 23 51 rfl (Nat.le_of_ble_eq_true rfl)
       rw [v23] at g23
       refine BigFrame.wpList_want (by simp [Region.wanted, yielded, g23]) ?_
       intro K hK
       have v27 := (hF 27 (by decide) (hD 27 (by kernel_rfl))).get rfl
       have g27 := hG 27 55 rfl (Nat.le_of_ble_eq_true rfl)
       have hGW := hg5.on hE
       go_wp2_with fail
       refine (told_yes _ 10 2 0 _ hGW v27 (by decide)).mono ?_
       rintro e W' ⟨rfl, hb'⟩
       replace hb' := Lib.hid hb'
       go_wp2_with fail
       first | exact ⟨_, rfl, hb'.out, VK.val rfl rfl, trivial⟩ | exact ⟨_, rfl, hb'.out, VK.val rfl rfl⟩
     · intro ys done W aa hE hn hF hD hZ hG hO
       replace hE : Below w5.heap.size w5 W := hE
       have v23 := (hF 23 (by decide) (hD 23 (by kernel_rfl))).eq rfl
       have g23 := hG 23 51 rfl (Nat.le_of_ble_eq_true rfl)
       rw [v23] at g23
       refine BigFrame.wpList_want (by simp [Region.wanted, yielded, g23]) ?_
       intro K hK
       have v28 := (hF 28 (by decide) (hD 28 (by kernel_rfl))).eq rfl
       have g28 := hG 28 56 rfl (Nat.le_of_ble_eq_true rfl)
       rw [v28] at g28
       go_wp2_with fail
       first | exact ⟨_, rfl, Below.refl _ _, VK.val rfl rfl, trivial⟩ | exact ⟨_, rfl, Below.refl _ _, VK.val rfl rfl⟩
     · intro ys done W aa hE hn hF hD hZ hG hO
       replace hE : Below w5.heap.size w5 W := hE
       have v23 := (hF 23 (by decide) (hD 23 (by kernel_rfl))).eq rfl
       have g23 := hG 23 51 rfl (Nat.le_of_ble_eq_true rfl)
       rw [v23] at g23
       have v29 := (hF 29 (by decide) (hD 29 (by kernel_rfl))).eq rfl
       have g29 := hG 29 57 rfl (Nat.le_of_ble_eq_true rfl)
       rw [v29] at g29
       go_wp2_with fail
       first | exact ⟨_, rfl, Below.refl _ _, VK.val rfl rfl, trivial⟩ | exact ⟨_, rfl, Below.refl _ _, VK.val rfl rfl⟩
     · intro ys done W aa hE hn hF hD hZ hG hO
       replace hE : Below w5.heap.size w5 W := hE
       have v30 := (hF 30 (by decide) (hD 30 (by kernel_rfl))).eq rfl
       have g30 := hG 30 58 rfl (Nat.le_of_ble_eq_true rfl)
       rw [v30] at g30
       go_wp2_with fail
       first | exact ⟨_, rfl, Below.refl _ _, VK.val rfl rfl, trivial⟩ | exact ⟨_, rfl, Below.refl _ _, VK.val rfl rfl⟩
     · intro ys done W aa hE hn hF hD hZ hG hO
       replace hE : Below w5.heap.size w5 W := hE
       have v31 := (hF 31 (by decide) (hD 31 (by kernel_rfl))).eq rfl
       have g31 := hG 31 59 rfl (Nat.le_of_ble_eq_true rfl)
       rw [v31] at g31
       refine BigFrame.wpList_want (by simp [Region.wanted, yielded, g31]) ?_
       intro K hK
       have o1 := hO 1 (by kernel_rfl)
       replace o1 : aa.tmps[1]? = some (.pointer (some ⟨q, 0, none⟩)) := o1
       have hAt := hV5.keep hE hV5.inside
       have p0 := hAt.cell 0
       have p1 := hAt.cell 1
       have p2 := hAt.cell 2
       have p3 := hAt.cell 3
       have p4 := hAt.cell 4
       simp at p0 p1 p2 p3 p4
       clear hAt
       go_wp2_with fail
       first | exact ⟨_, rfl, Below.refl _ _, VK.val rfl rfl, trivial⟩ | exact ⟨_, rfl, Below.refl _ _, VK.val rfl rfl⟩
     · intro ys done W aa hE hn hF hD hZ hG hO
       replace hE : Below w5.heap.size w5 W := hE
       have v31 := (hF 31 (by decide) (hD 31 (by kernel_rfl))).eq rfl
       have g31 := hG 31 59 rfl (Nat.le_of_ble_eq_true rfl)
       rw [v31] at g31
       refine BigFrame.wpList_want (by simp [Region.wanted, yielded, g31]) ?_
       intro K hK
       have o2 := hO 2 (by kernel_rfl)
       replace o2 : aa.tmps[2]? = some (.slice (some ⟨gl, 0, none⟩) 2 2) := o2
       go_wp2_with fail
       first | exact ⟨_, rfl, Below.refl _ _, VK.val rfl rfl, trivial⟩ | exact ⟨_, rfl, Below.refl _ _, VK.val rfl rfl⟩
     · intro ys done W aa hE hn hF hD hZ hG hO
       replace hE : Below w5.heap.size w5 W := hE
       have v31 := (hF 31 (by decide) (hD 31 (by kernel_rfl))).eq rfl
       have g31 := hG 31 59 rfl (Nat.le_of_ble_eq_true rfl)
       rw [v31] at g31
       refine BigFrame.wpList_want (by simp [Region.wanted, yielded, g31]) ?_
       intro K hK
       have o6 := hO 6 (by kernel_rfl)
       replace o6 : aa.tmps[6]? = some (.slice (some ⟨gq, 0, none⟩) 1 1) := o6
       go_wp2_with fail
       first | exact ⟨_, rfl, Below.refl _ _, VK.val rfl rfl, trivial⟩ | exact ⟨_, rfl, Below.refl _ _, VK.val rfl rfl⟩
     · intro ys done W aa hE hn hF hD hZ hG hO
       replace hE : Below w5.heap.size w5 W := hE
       have v31 := (hF 31 (by decide) (hD 31 (by kernel_rfl))).eq rfl
       have g31 := hG 31 59 rfl (Nat.le_of_ble_eq_true rfl)
       rw [v31] at g31
       refine BigFrame.wpList_want (by simp [Region.wanted, yielded, g31]) ?_
       intro K hK
       have v32 := (hF 32 (by decide) (hD 32 (by kernel_rfl))).eq rfl
       have g32 := hG 32 60 rfl (Nat.le_of_ble_eq_true rfl)
       rw [v32] at g32
       have v33 := (hF 33 (by decide) (hD 33 (by kernel_rfl))).eq rfl
       have g33 := hG 33 61 rfl (Nat.le_of_ble_eq_true rfl)
       rw [v33] at g33
       have v34 := (hF 34 (by decide) (hD 34 (by kernel_rfl))).eq rfl
       have g34 := hG 34 62 rfl (Nat.le_of_ble_eq_true rfl)
       rw [v34] at g34
       go_wp2_with fail
       refine (Check_any vC _ _ lC [qL] (by decide) (nums_of (by decide +kernel)) W (Row.laid2 (hL5.keep hE hL5.inside)) (Rqs.laid1 (q := qL) (hQ5.keep hE hQ5.inside))).mono ?_
       rintro e W' ⟨⟨u, rfl, hu⟩, hb'⟩
       rw [kW5] at hu
       replace hb' := Lib.hid hb'
       replace hu := Lib.hid hu
       go_wp2_with fail
       first | exact ⟨_, rfl, hb'.out, VK.of rfl hu.out, trivial⟩ | exact ⟨_, rfl, hb'.out, VK.of rfl hu.out⟩
     · intro ys done W aa hE hn hF hD hZ hG hO
       replace hE : Below w5.heap.size w5 W := hE
       have v31 := (hF 31 (by decide) (hD 31 (by kernel_rfl))).eq rfl
       have g31 := hG 31 59 rfl (Nat.le_of_ble_eq_true rfl)
       rw [v31] at g31
       refine BigFrame.wpList_want (by simp [Region.wanted, yielded, g31]) ?_
       intro K hK
       have v35 := (hF 35 (by decide) (hD 35 (by kernel_rfl))).get rfl
       have g35 := hG 35 63 rfl (Nat.le_of_ble_eq_true rfl)
       have hGW := hg5.on hE
       go_wp2_with fail
       refine (told_yes _ 9 2 0 _ hGW v35 (by decide)).mono ?_
       rintro e W' ⟨rfl, hb'⟩
       replace hb' := Lib.hid hb'
       go_wp2_with fail
       first | exact ⟨_, rfl, hb'.out, VK.val rfl rfl, trivial⟩ | exact ⟨_, rfl, hb'.out, VK.val rfl rfl⟩
     · intro ys done W aa hE hn hF hD hZ hG hO
       replace hE : Below w5.heap.size w5 W := hE
       have v31 := (hF 31 (by decide) (hD 31 (by kernel_rfl))).eq rfl
       have g31 := hG 31 59 rfl (Nat.le_of_ble_eq_true rfl)
       rw [v31] at g31
       refine BigFrame.wpList_want (by simp [Region.wanted, yielded, g31]) ?_
       intro K hK
       have v36 := (hF 36 (by decide) (hD 36 (by kernel_rfl))).eq rfl
       have g36 := hG 36 64 rfl (Nat.le_of_ble_eq_true rfl)
       rw [v36] at g36
       go_wp2_with fail
       first | exact ⟨_, rfl, Below.refl _ _, VK.val rfl rfl, trivial⟩ | exact ⟨_, rfl, Below.refl _ _, VK.val rfl rfl⟩
     · intro ys done W aa hE hn hF hD hZ hG hO
       replace hE : Below w5.heap.size w5 W := hE
       have v31 := (hF 31 (by decide) (hD 31 (by kernel_rfl))).eq rfl
       have g31 := hG 31 59 rfl (Nat.le_of_ble_eq_true rfl)
       rw [v31] at g31
       have v37 := (hF 37 (by decide) (hD 37 (by kernel_rfl))).eq rfl
       have g37 := hG 37 65 rfl (Nat.le_of_ble_eq_true rfl)
       rw [v37] at g37
       go_wp2_with fail
       first | exact ⟨_, rfl, Below.refl _ _, VK.val rfl rfl, trivial⟩ | exact ⟨_, rfl, Below.refl _ _, VK.val rfl rfl⟩
     · intro ys done W aa hE hn hF hD hZ hG hO
       replace hE : Below w5.heap.size w5 W := hE
       have v38 := (hF 38 (by decide) (hD 38 (by kernel_rfl))).eq rfl
       have g38 := hG 38 66 rfl (Nat.le_of_ble_eq_true rfl)
       rw [v38] at g38
       go_wp2_with fail
       first | exact ⟨_, rfl, Below.refl _ _, VK.val rfl rfl, trivial⟩ | exact ⟨_, rfl, Below.refl _ _, VK.val rfl rfl⟩
     · intro ys done W aa hE hn hF hD hZ hG hO
       replace hE : Below w5.heap.size w5 W := hE
       have v39 := (hF 39 (by decide) (hD 39 (by kernel_rfl))).eq rfl
       have g39 := hG 39 67 rfl (Nat.le_of_ble_eq_true rfl)
       rw [v39] at g39
       refine BigFrame.wpList_want (by simp [Region.wanted, yielded, g39]) ?_
       intro K hK
       have o5 := hO 5 (by kernel_rfl)
       replace o5 : aa.tmps[5]? = some (.pointer (some ⟨gh, 0, none⟩)) := o5
       have hAt := hH5.keep hE hH5.inside
       have p0 := hAt.cell 0
       have p1 := hAt.cell 1
       have p2 := hAt.cell 2
       have p3 := hAt.cell 3
       have p4 := hAt.cell 4
       simp at p0 p1 p2 p3 p4
       clear hAt
       go_wp2_with fail
       first | exact ⟨_, rfl, Below.refl _ _, VK.val rfl rfl, trivial⟩ | exact ⟨_, rfl, Below.refl _ _, VK.val rfl rfl⟩
     · intro ys done W aa hE hn hF hD hZ hG hO
       replace hE : Below w5.heap.size w5 W := hE
       have v39 := (hF 39 (by decide) (hD 39 (by kernel_rfl))).eq rfl
       have g39 := hG 39 67 rfl (Nat.le_of_ble_eq_true rfl)
       rw [v39] at g39
       refine BigFrame.wpList_want (by simp [Region.wanted, yielded, g39]) ?_
       intro K hK
       have o2 := hO 2 (by kernel_rfl)
       replace o2 : aa.tmps[2]? = some (.slice (some ⟨gl, 0, none⟩) 2 2) := o2
       go_wp2_with fail
       first | exact ⟨_, rfl, Below.refl _ _, VK.val rfl rfl, trivial⟩ | exact ⟨_, rfl, Below.refl _ _, VK.val rfl rfl⟩
     · intro ys done W aa hE hn hF hD hZ hG hO
       replace hE : Below w5.heap.size w5 W := hE
       have v39 := (hF 39 (by decide) (hD 39 (by kernel_rfl))).eq rfl
       have g39 := hG 39 67 rfl (Nat.le_of_ble_eq_true rfl)
       rw [v39] at g39
       refine BigFrame.wpList_want (by simp [Region.wanted, yielded, g39]) ?_
       intro K hK
       have o3 := hO 3 (by kernel_rfl)
       replace o3 : aa.tmps[3]? = some (.slice (some ⟨gt, 0, none⟩) 1 1) := o3
       go_wp2_with fail
       first | exact ⟨_, rfl, Below.refl _ _, VK.val rfl rfl, trivial⟩ | exact ⟨_, rfl, Below.refl _ _, VK.val rfl rfl⟩
     · intro ys done W aa hE hn hF hD hZ hG hO
       replace hE : Below w5.heap.size w5 W := hE
       have v39 := (hF 39 (by decide) (hD 39 (by kernel_rfl))).eq rfl
       have g39 := hG 39 67 rfl (Nat.le_of_ble_eq_true rfl)
       rw [v39] at g39
       refine BigFrame.wpList_want (by simp [Region.wanted, yielded, g39]) ?_
       intro K hK
       have v40 := (hF 40 (by decide) (hD 40 (by kernel_rfl))).eq rfl
       have g40 := hG 40 68 rfl (Nat.le_of_ble_eq_true rfl)
       rw [v40] at g40
       have v41 := (hF 41 (by decide) (hD 41 (by kernel_rfl))).eq rfl
       have g41 := hG 41 69 rfl (Nat.le_of_ble_eq_true rfl)
       rw [v41] at g41
       have v42 := (hF 42 (by decide) (hD 42 (by kernel_rfl))).eq rfl
       have g42 := hG 42 70 rfl (Nat.le_of_ble_eq_true rfl)
       rw [v42] at g42
       go_wp2_with fail
       refine (Check_any vH _ _ lC tC (by decide) (nums_of (by decide +kernel)) W (Row.laid2 (hL5.keep hE hL5.inside)) (Rqs.laid1 (q := qC) (hT5.keep hE hT5.inside))).mono ?_
       rintro e W' ⟨⟨u, rfl, hu⟩, hb'⟩
       rw [kW6] at hu
       replace hb' := Lib.hid hb'
       replace hu := Lib.hid hu
       go_wp2_with fail
       first | exact ⟨_, rfl, hb'.out, VK.of rfl hu.out, trivial⟩ | exact ⟨_, rfl, hb'.out, VK.of rfl hu.out⟩
     · intro ys done W aa hE hn hF hD hZ hG hO
       replace hE : Below w5.heap.size w5 W := hE
       have v39 := (hF 39 (by decide) (hD 39 (by kernel_rfl))).eq rfl
       have g39 := hG 39 67 rfl (Nat.le_of_ble_eq_true rfl)
       rw [v39] at g39
       refine BigFrame.wpList_want (by simp [Region.wanted, yielded, g39]) ?_
       intro K hK
       have v43 := (hF 43 (by decide) (hD 43 (by kernel_rfl))).get rfl
       have g43 := hG 43 71 rfl (Nat.le_of_ble_eq_true rfl)
       have hGW := hg5.on hE
       go_wp2_with fail
       refine (told_yes _ 9 3 2 _ hGW v43 (by decide)).mono ?_
       rintro e W' ⟨rfl, hb'⟩
       replace hb' := Lib.hid hb'
       go_wp2_with fail
       first | exact ⟨_, rfl, hb'.out, VK.val rfl rfl, trivial⟩ | exact ⟨_, rfl, hb'.out, VK.val rfl rfl⟩
     · intro ys done W aa hE hn hF hD hZ hG hO
       replace hE : Below w5.heap.size w5 W := hE
       have v39 := (hF 39 (by decide) (hD 39 (by kernel_rfl))).eq rfl
       have g39 := hG 39 67 rfl (Nat.le_of_ble_eq_true rfl)
       rw [v39] at g39
       refine BigFrame.wpList_want (by simp [Region.wanted, yielded, g39]) ?_
       intro K hK
       have v44 := (hF 44 (by decide) (hD 44 (by kernel_rfl))).eq rfl
       have g44 := hG 44 72 rfl (Nat.le_of_ble_eq_true rfl)
       rw [v44] at g44
       go_wp2_with fail
       first | exact ⟨_, rfl, Below.refl _ _, VK.val rfl rfl, trivial⟩ | exact ⟨_, rfl, Below.refl _ _, VK.val rfl rfl⟩
    case hQ7 =>
     intro ys w6 hE hF _
     replace hE : Below w5.heap.size w5 w6 := hE
     have v39 := (hF 39 (by decide)).eq rfl
     have v45 := (hF 45 (by decide)).eq rfl
     have hS6 := hS5.keep hE hS5.inside
     have hH6 := hH5.keep hE hH5.inside
     have hV6 := hV5.keep hE hV5.inside
     have hL6 := hL5.keep hE hL5.inside
     have hT6 := hT5.keep hE hT5.inside
     have hB6 := hB5.trans (hE.mono hB5.size)
     simp only [List.take_succ_cons, List.take_zero, List.drop_succ_cons, List.drop_zero, Sched.fill, v39, v45]
     clear hF v39 v45
     go_simp
     clear hS5 hH5 hV5 hL5 hT5 hB5 hg5 hE hQ5 hS6 hH6
     go_upto_region 13 with fail
     obtain ⟨n, hn⟩ : ∃ n, w6.heap.size = n := ⟨_, rfl⟩
     obtain ⟨w7, hw7⟩ : ∃ w7, ((((w6.alloc (.cells #[.int .i64 5, .int .i64 5, .int .i64 6, .int .i64 10, .int .i64 10, .int .i64 11] 40)).alloc (.cells #[.int .i64 5, .int .i64 7, .int .i64 8, .int .i64 12, .int .i64 12, .int .i64 13] 40)).alloc (.cells #[.int .i64 4, .int .i64 5, .int .i64 6, .int .i64 10, .int .i64 10, .int .i64 11] 40)).alloc (.cells #[.int .i64 5, .int .i64 5, .int .i64 7, .int .i64 11, .int .i64 11, .int .i64 12] 40)) = w7 := ⟨_, rfl⟩
     have hX0 : At w7 n 40 #[.int .i64 5, .int .i64 5, .int .i64 6, .int .i64 10, .int .i64 10, .int .i64 11] := by rw [← hw7]; exact (((At.new_ _ _ _ hn.symm).alloc _).alloc _).alloc _
     have hX1 : At w7 (n + 1) 40 #[.int .i64 5, .int .i64 7, .int .i64 8, .int .i64 12, .int .i64 12, .int .i64 13] := by rw [← hw7]; exact ((At.new_ _ _ _ (by simp [hn])).alloc _).alloc _
     have hX2 : At w7 (n + 1 + 1) 40 #[.int .i64 4, .int .i64 5, .int .i64 6, .int .i64 10, .int .i64 10, .int .i64 11] := by rw [← hw7]; exact (At.new_ _ _ _ (by simp [hn])).alloc _
     have hX3 : At w7 (n + 1 + 1 + 1) 40 #[.int .i64 5, .int .i64 5, .int .i64 7, .int .i64 11, .int .i64 11, .int .i64 12] := by rw [← hw7]; exact At.new_ _ _ _ (by simp [hn])
     have hb7 : Below w6.heap.size w6 w7 := by rw [← hw7]; exact ((((Below.refl _ _).alloc (Nat.le_refl _) _).alloc (by simp) _).alloc (by simp; omega) _).alloc (by simp; omega) _
     simp only [hn]
     rw [hw7]
     have hV7 := hV6.keep hb7 hV6.inside
     have hL7 := hL6.keep hb7 hL6.inside
     have hT7 := hT6.keep hb7 hT6.inside
     have hB7 := hB6.trans (hb7.mono hB6.size)
     clear hV6 hL6 hT6 hB6 hb7 hw7 hn
     have c0 := hV7.cell 0
     have c1 := hV7.cell 1
     have c2 := hV7.cell 2
     have c3 := hV7.cell 3
     have c4 := hV7.cell 4
     simp at c0 c1 c2 c3 c4
     have kc0 := cell_regrown c0
     have kc1 := cell_regrown c1
     have kc2 := cell_regrown c2
     have kc3 := cell_regrown c3
     have kc4 := cell_regrown c4
     have kR1 := fun d os => Calls.regrown_of (by
       have := Right_any vC _ _ _ lC tC [⟨5, 5, 6⟩, ⟨10, 10, 11⟩] (by decide) lC_nums (grow (redrawn w7 d) os) (Row.laid2 (hL7.keep (below_regrown w7 d os) hL7.inside)) (Rqs.laid1 (q := qC) (hT7.keep (below_regrown w7 d os) hT7.inside)) (Tms.laid2 (hX0.keep (below_regrown w7 d os) hX0.inside))
       rw [kT1] at this
       simp only [vC] at this
       exact this)
     have kR2 := fun d os => Calls.regrown_of (by
       have := Right_any vC _ _ _ lC tC [⟨5, 7, 8⟩, ⟨12, 12, 13⟩] (by decide) lC_nums (grow (redrawn w7 d) os) (Row.laid2 (hL7.keep (below_regrown w7 d os) hL7.inside)) (Rqs.laid1 (q := qC) (hT7.keep (below_regrown w7 d os) hT7.inside)) (Tms.laid2 (hX1.keep (below_regrown w7 d os) hX1.inside))
       rw [kT2] at this
       simp only [vC] at this
       exact this)
     have kR3 := fun d os => Calls.regrown_of (by
       have := Right_any vC _ _ _ lC tC [⟨4, 5, 6⟩, ⟨10, 10, 11⟩] (by decide) lC_nums (grow (redrawn w7 d) os) (Row.laid2 (hL7.keep (below_regrown w7 d os) hL7.inside)) (Rqs.laid1 (q := qC) (hT7.keep (below_regrown w7 d os) hT7.inside)) (Tms.laid2 (hX2.keep (below_regrown w7 d os) hX2.inside))
       rw [kT3] at this
       simp only [vC] at this
       exact this)
     have kR4 := fun d os => Calls.regrown_of (by
       have := Right_any vC _ _ _ lC tC [⟨5, 5, 7⟩, ⟨11, 11, 12⟩] (by decide) lC_nums (grow (redrawn w7 d) os) (Row.laid2 (hL7.keep (below_regrown w7 d os) hL7.inside)) (Rqs.laid1 (q := qC) (hT7.keep (below_regrown w7 d os) hT7.inside)) (Tms.laid2 (hX3.keep (below_regrown w7 d os) hX3.inside))
       rw [kT4] at this
       simp only [vC] at this
       exact this)
     have kR5 := fun d os => Calls.regrown_of (by
       have := Right_any vC _ _ _ lC tC [⟨5, 5, 6⟩] (by decide) lC_nums (grow (redrawn w7 d) os) (Row.laid2 (hL7.keep (below_regrown w7 d os) hL7.inside)) (Rqs.laid1 (q := qC) (hT7.keep (below_regrown w7 d os) hT7.inside)) (Tms.laid21 (hX0.keep (below_regrown w7 d os) hX0.inside))
       rw [kT5] at this
       simp only [vC] at this
       exact this)
     refine wp_region_quiet_below (by kernel_rfl) (by kernel_rfl) ?_
     repeat (go_big_quiet_step (first | with_reducible exact kR1 _ _ | with_reducible exact kR2 _ _ | with_reducible exact kR3 _ _ | with_reducible exact kR4 _ _ | with_reducible exact kR5 _ _))
     refine wpQuiet_nil ?_
     intro _ hw'
     obtain ⟨⟨dq, osq⟩, hw''⟩ := hw'
     subst hw''
     have hB8 := hB7.trans ((below_regrown w7 dq osq).mono hB7.size)
     go_wp2
     go_ret
     exact ⟨rfl, hB8⟩

end Go.Proofs.YteefkijmodcijaaDoor.Feas

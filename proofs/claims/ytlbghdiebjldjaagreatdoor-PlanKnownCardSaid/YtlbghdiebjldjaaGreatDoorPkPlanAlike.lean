import Derived.Test.YtlbghdiebjldjaaGreatDoorPkPlanPNew
import Derived.Test.YtlbghdiebjldjaaGreatDoorPkPlanPPut

namespace Go.Proofs.YtlbghdiebjldjaaGreatDoor.Plan
open Go.RowKit Go.Sort Go.Proofs.YtlbghdiebjldjaaGreatDoor.Mem Go.Proofs.YtlbghdiebjldjaaGreatDoor.Route Go.Proofs.YtlbghdiebjldjaaGreatDoor.When Go.Proofs.YtlbghdiebjldjaaGreatDoor.Load Go.Proofs.YtlbghdiebjldjaaGreatDoor.Ins Go.Proofs.YtlbghdiebjldjaaGreatDoor.Feas
set_option linter.unusedVariables false
theorem allS_len (S : St) : (allS S).length ≤ S.t.length := allK_len S S.t.length
set_option maxRecDepth 100000 in
set_option maxHeartbeats 8000000 in
theorem alike_any {D G : Nat → Prop} {lo : Nat} {p pr gr : Nat} {vf vt : Value} {cap : Nat} {us : List Value} {S : St} (w : World) (h : Two D G lo w p pr gr vf vt cap us S) :
 Calls Tryz.prog 16 #[.pointer (some ⟨p, 0, none⟩), .pointer (some ⟨pr, 0, none⟩)] w fun e w' => e = .returned (.bool true) ∧ Below w.heap.size w w' := by
 have ho := Lib.hid h.ok
 obtain ⟨xt, Nt, ct, rfl, hNt0, htc1, htc2, -⟩ := Rqs.opened (show Rqs w.heap.size w vt S.t from h.b.t.1)
 unfold maxLen at htc2
 have hNt9 : Nt ≤ 1000 := by rw [← hNt0]; exact h.ok.tl
 obtain ⟨N, hN0⟩ : ∃ N, S.rows.length = N := ⟨_, rfl⟩
 have hbx := h.b.box
 rw [hN0] at hbx
 have hrw := Lib.hid h.b.rws
 rw [hN0] at hrw
 have hN4 : N ≤ 4 := by rw [← hN0]; exact h.ok.small
 have hpr := h.b.box.inside
 have h' := Lib.hid h
 have hbx' := Lib.hid hbx
 have b1 := hbx.cell 1
 simp at b1
 clear h hNt0 hN0
 go_enter Tryz.func16, Tryz.ntmps16
 go_upto_region 1 with fail
 refine Sched.wp_region_sched 22 (fun W W' => Below W.heap.size W W') (VK [.val (.pointer (some ⟨p, 0, none⟩)), .of (fun v w => (∃ x n c, v = .slice x n c) ∧ Rws w.heap.size w v S.rows) (fun ⟨e, h⟩ hb => ⟨e, h.on hb⟩), .val (.pointer (some ⟨pr, 0, none⟩)), .val (.pointer (some ⟨pr, 0, none⟩)), .val (.pointer (some ⟨pr, 2, none⟩)), .val (.slice (some ⟨gr, 0, none⟩) N cap), .val (.bool true), .val (.bool false), .val (.bool false), .val (.pointer (some ⟨p, 0, none⟩)), .of (fun v w => (∃ x n c, v = .slice x n c) ∧ Ints w.heap.size w v (allS S)) (fun ⟨e, h⟩ hb => ⟨e, h.on hb⟩), .val (.pointer (some ⟨pr, 0, none⟩)), .of (fun v w => (∃ x n c, v = .slice x n c) ∧ Ints w.heap.size w v (allS S)) (fun ⟨e, h⟩ hb => ⟨e, h.on hb⟩), .val (.bool true), .val (.bool false), .val (.bool false), .val (.bool false), .val (.pointer (some ⟨p, 0, none⟩)), .val (.int .i64 (totS S)), .val (.pointer (some ⟨pr, 0, none⟩)), .val (.int .i64 (totS S)), .val (.bool false)]) (fun _ _ _ => True) (by kernel_rfl) (by kernel_rfl) (by kernel_rfl) (fun h1 h2 => belowTr h1 h2) (fun h1 h2 => VK.keep h1 h2) (Below.refl _ _).drew (fun _ => trivial) (Sched.StepsA.steps (by kernel_rfl) ?hSA) ?hQA
 case hSA =>
  simp only [List.take_succ_cons, List.take_zero]
  refine ⟨?_, ?_, ?_, ?_, ?_, ?_, ?_, ?_, ?_, ?_, ?_, ?_, ?_, ?_, ?_, ?_, ?_, ?_, ?_, ?_, ?_, ?_, trivial⟩
  · intro ys done W aa hE hn hF hD hZ hG hO
    replace hE : Below w.heap.size w W := hE
    have o0 := hO 0 (by kernel_rfl)
    replace o0 : aa.tmps[0]? = some (.pointer (some ⟨p, 0, none⟩)) := o0
    go_wp2_with fail
    first | exact ⟨_, rfl, Below.refl _ _, VK.val rfl rfl, trivial⟩ | exact ⟨_, rfl, Below.refl _ _, VK.val rfl rfl⟩
  · intro ys done W aa hE hn hF hD hZ hG hO
    replace hE : Below w.heap.size w W := hE
    have v0 := (hF 0 (by decide) (hD 0 (by kernel_rfl))).eq rfl
    have g0 := hG 0 6 rfl (Nat.le_of_ble_eq_true rfl)
    rw [v0] at g0
    go_wp2_with fail
    refine (Routes_any W (h'.out.on hE).a ho.out).mono ?_
    rintro e W' ⟨⟨u9, rfl, us9, hu9⟩, hb'⟩
    have hu := Lib.hid hu9.rws
    obtain ⟨x9, c9, rfl, -, -⟩ := owns_slice hu9.1
    clear hu9
    replace hb' := Lib.hid hb'
    skip
    go_wp2_with fail
    first | exact ⟨_, rfl, hb'.out, VK.of rfl ⟨⟨_, _, _, rfl⟩, hu.out⟩, trivial⟩ | exact ⟨_, rfl, hb'.out, VK.of rfl ⟨⟨_, _, _, rfl⟩, hu.out⟩⟩
  · intro ys done W aa hE hn hF hD hZ hG hO
    replace hE : Below w.heap.size w W := hE
    have o1 := hO 1 (by kernel_rfl)
    replace o1 : aa.tmps[1]? = some (.pointer (some ⟨pr, 0, none⟩)) := o1
    go_wp2_with fail
    first | exact ⟨_, rfl, Below.refl _ _, VK.val rfl rfl, trivial⟩ | exact ⟨_, rfl, Below.refl _ _, VK.val rfl rfl⟩
  · intro ys done W aa hE hn hF hD hZ hG hO
    replace hE : Below w.heap.size w W := hE
    have v2 := (hF 2 (by decide) (hD 2 (by kernel_rfl))).eq rfl
    have g2 := hG 2 8 rfl (Nat.le_of_ble_eq_true rfl)
    rw [v2] at g2
    have hAt := hbx.keep hE hbx.inside
    have z9 := hAt.inside
    clear hAt
    go_wp2_with fail
    first | exact ⟨_, rfl, Below.refl _ _, VK.val rfl rfl, trivial⟩ | exact ⟨_, rfl, Below.refl _ _, VK.val rfl rfl⟩
  · intro ys done W aa hE hn hF hD hZ hG hO
    replace hE : Below w.heap.size w W := hE
    have v3 := (hF 3 (by decide) (hD 3 (by kernel_rfl))).eq rfl
    have g3 := hG 3 9 rfl (Nat.le_of_ble_eq_true rfl)
    rw [v3] at g3
    have hAt := hbx.keep hE hbx.inside
    have z9 := hAt.inside
    clear hAt
    go_wp2_with fail
    first | exact ⟨_, rfl, Below.refl _ _, VK.val rfl rfl, trivial⟩ | exact ⟨_, rfl, Below.refl _ _, VK.val rfl rfl⟩
  · intro ys done W aa hE hn hF hD hZ hG hO
    replace hE : Below w.heap.size w W := hE
    have v4 := (hF 4 (by decide) (hD 4 (by kernel_rfl))).eq rfl
    have g4 := hG 4 10 rfl (Nat.le_of_ble_eq_true rfl)
    rw [v4] at g4
    have hAt := hbx.keep hE hbx.inside
    have pc := hAt.cell 2
    simp at pc
    clear hAt
    go_wp2_with fail
    first | exact ⟨_, rfl, Below.refl _ _, VK.val rfl rfl, trivial⟩ | exact ⟨_, rfl, Below.refl _ _, VK.val rfl rfl⟩
  · intro ys done W aa hE hn hF hD hZ hG hO
    replace hE : Below w.heap.size w W := hE
    have v1 := (hF 1 (by decide) (hD 1 (by kernel_rfl))).get rfl
    have g1 := hG 1 7 rfl (Nat.le_of_ble_eq_true rfl)
    have v5 := (hF 5 (by decide) (hD 5 (by kernel_rfl))).eq rfl
    have g5 := hG 5 11 rfl (Nat.le_of_ble_eq_true rfl)
    rw [v5] at g5
    obtain ⟨⟨x1, n1, c1, e1⟩, v1⟩ := v1
    rw [e1] at g1 v1
    replace v1 := Lib.hid v1
    go_wp2_with fail
    refine (refSame_any _ _ S.rows S.rows (by have := ho.out.small; omega) ho.out.shorts W v1.out (hrw.out.on hE)).mono ?_
    rintro e W' ⟨rfl, hb'⟩
    rw [decide_eq_true (rfl : S.rows = S.rows)]
    replace hb' := Lib.hid hb'
    go_wp2_with fail
    first | exact ⟨_, rfl, hb'.out, VK.val rfl rfl, trivial⟩ | exact ⟨_, rfl, hb'.out, VK.val rfl rfl⟩
  · intro ys done W aa hE hn hF hD hZ hG hO
    replace hE : Below w.heap.size w W := hE
    have v6 := (hF 6 (by decide) (hD 6 (by kernel_rfl))).eq rfl
    have g6 := hG 6 12 rfl (Nat.le_of_ble_eq_true rfl)
    rw [v6] at g6
    go_wp2_with fail
    first | exact ⟨_, rfl, Below.refl _ _, VK.val rfl rfl, trivial⟩ | exact ⟨_, rfl, Below.refl _ _, VK.val rfl rfl⟩
  · intro ys done W aa hE hn hF hD hZ hG hO
    replace hE : Below w.heap.size w W := hE
    have v7 := (hF 7 (by decide) (hD 7 (by kernel_rfl))).eq rfl
    have g7 := hG 7 13 rfl (Nat.le_of_ble_eq_true rfl)
    rw [v7] at g7
    go_wp2_with fail
    first | exact ⟨_, rfl, Below.refl _ _, VK.val rfl rfl, trivial⟩ | exact ⟨_, rfl, Below.refl _ _, VK.val rfl rfl⟩
  · intro ys done W aa hE hn hF hD hZ hG hO
    replace hE : Below w.heap.size w W := hE
    have v8 := (hF 8 (by decide) (hD 8 (by kernel_rfl))).eq rfl
    have g8 := hG 8 14 rfl (Nat.le_of_ble_eq_true rfl)
    rw [v8] at g8
    refine BigFrame.wpList_want (by simp [Region.wanted, yielded, g8]) ?_
    intro K hK
    have o0 := hO 0 (by kernel_rfl)
    replace o0 : aa.tmps[0]? = some (.pointer (some ⟨p, 0, none⟩)) := o0
    go_wp2_with fail
    first | exact ⟨_, rfl, Below.refl _ _, VK.val rfl rfl, trivial⟩ | exact ⟨_, rfl, Below.refl _ _, VK.val rfl rfl⟩
  · intro ys done W aa hE hn hF hD hZ hG hO
    replace hE : Below w.heap.size w W := hE
    have v8 := (hF 8 (by decide) (hD 8 (by kernel_rfl))).eq rfl
    have g8 := hG 8 14 rfl (Nat.le_of_ble_eq_true rfl)
    rw [v8] at g8
    refine BigFrame.wpList_want (by simp [Region.wanted, yielded, g8]) ?_
    intro K hK
    have v9 := (hF 9 (by decide) (hD 9 (by kernel_rfl))).eq rfl
    have g9 := hG 9 15 rfl (Nat.le_of_ble_eq_true rfl)
    rw [v9] at g9
    go_wp2_with fail
    refine (All_any W (h'.out.on hE).a ho.out).mono ?_
    rintro e W' ⟨⟨u9, rfl, hu9⟩, hb'⟩
    have hu := Lib.hid (Ints.of_owns (B := W'.heap.size) hu9 rfl (Nat.le_refl _))
    obtain ⟨x9, c9, rfl, -, -⟩ := owns_slice hu9
    clear hu9
    replace hb' := Lib.hid hb'
    skip
    go_wp2_with fail
    first | exact ⟨_, rfl, hb'.out, VK.of rfl ⟨⟨_, _, _, rfl⟩, hu.out⟩, trivial⟩ | exact ⟨_, rfl, hb'.out, VK.of rfl ⟨⟨_, _, _, rfl⟩, hu.out⟩⟩
  · intro ys done W aa hE hn hF hD hZ hG hO
    replace hE : Below w.heap.size w W := hE
    have v8 := (hF 8 (by decide) (hD 8 (by kernel_rfl))).eq rfl
    have g8 := hG 8 14 rfl (Nat.le_of_ble_eq_true rfl)
    rw [v8] at g8
    refine BigFrame.wpList_want (by simp [Region.wanted, yielded, g8]) ?_
    intro K hK
    have o1 := hO 1 (by kernel_rfl)
    replace o1 : aa.tmps[1]? = some (.pointer (some ⟨pr, 0, none⟩)) := o1
    go_wp2_with fail
    first | exact ⟨_, rfl, Below.refl _ _, VK.val rfl rfl, trivial⟩ | exact ⟨_, rfl, Below.refl _ _, VK.val rfl rfl⟩
  · intro ys done W aa hE hn hF hD hZ hG hO
    replace hE : Below w.heap.size w W := hE
    have v8 := (hF 8 (by decide) (hD 8 (by kernel_rfl))).eq rfl
    have g8 := hG 8 14 rfl (Nat.le_of_ble_eq_true rfl)
    rw [v8] at g8
    refine BigFrame.wpList_want (by simp [Region.wanted, yielded, g8]) ?_
    intro K hK
    have v11 := (hF 11 (by decide) (hD 11 (by kernel_rfl))).eq rfl
    have g11 := hG 11 17 rfl (Nat.le_of_ble_eq_true rfl)
    rw [v11] at g11
    go_wp2_with fail
    refine (refAll_any W (h'.out.on hE).b ho.out.shorts (by have := ho.out.small; omega) (by have := ho.out.tl; omega)).mono ?_
    rintro e W' ⟨⟨u9, rfl, hu9⟩, hb'⟩
    have hu := Lib.hid hu9
    obtain ⟨x9, N9, c9, rfl, -⟩ := hu9.opened
    clear hu9
    replace hb' := Lib.hid hb'
    skip
    go_wp2_with fail
    first | exact ⟨_, rfl, hb'.out, VK.of rfl ⟨⟨_, _, _, rfl⟩, hu.out⟩, trivial⟩ | exact ⟨_, rfl, hb'.out, VK.of rfl ⟨⟨_, _, _, rfl⟩, hu.out⟩⟩
  · intro ys done W aa hE hn hF hD hZ hG hO
    replace hE : Below w.heap.size w W := hE
    have v8 := (hF 8 (by decide) (hD 8 (by kernel_rfl))).eq rfl
    have g8 := hG 8 14 rfl (Nat.le_of_ble_eq_true rfl)
    rw [v8] at g8
    refine BigFrame.wpList_want (by simp [Region.wanted, yielded, g8]) ?_
    intro K hK
    have v10 := (hF 10 (by decide) (hD 10 (by kernel_rfl))).get rfl
    have g10 := hG 10 16 rfl (Nat.le_of_ble_eq_true rfl)
    have v12 := (hF 12 (by decide) (hD 12 (by kernel_rfl))).get rfl
    have g12 := hG 12 18 rfl (Nat.le_of_ble_eq_true rfl)
    obtain ⟨⟨x1, n1, c1, e1⟩, v10⟩ := v10
    rw [e1] at g10 v10
    replace v10 := Lib.hid v10
    obtain ⟨⟨x2, n2, c2, e2⟩, v12⟩ := v12
    rw [e2] at g12 v12
    replace v12 := Lib.hid v12
    go_wp2_with fail
    refine (refInts_any _ _ (allS S) (allS S) (by have := allS_len S; have := ho.out.tl; omega) W v10.out v12.out).mono ?_
    rintro e W' ⟨rfl, hb'⟩
    rw [decide_eq_true (rfl : allS S = allS S)]
    replace hb' := Lib.hid hb'
    go_wp2_with fail
    first | exact ⟨_, rfl, hb'.out, VK.val rfl rfl, trivial⟩ | exact ⟨_, rfl, hb'.out, VK.val rfl rfl⟩
  · intro ys done W aa hE hn hF hD hZ hG hO
    replace hE : Below w.heap.size w W := hE
    have v8 := (hF 8 (by decide) (hD 8 (by kernel_rfl))).eq rfl
    have g8 := hG 8 14 rfl (Nat.le_of_ble_eq_true rfl)
    rw [v8] at g8
    refine BigFrame.wpList_want (by simp [Region.wanted, yielded, g8]) ?_
    intro K hK
    have v13 := (hF 13 (by decide) (hD 13 (by kernel_rfl))).eq rfl
    have g13 := hG 13 19 rfl (Nat.le_of_ble_eq_true rfl)
    rw [v13] at g13
    go_wp2_with fail
    first | exact ⟨_, rfl, Below.refl _ _, VK.val rfl rfl, trivial⟩ | exact ⟨_, rfl, Below.refl _ _, VK.val rfl rfl⟩
  · intro ys done W aa hE hn hF hD hZ hG hO
    replace hE : Below w.heap.size w W := hE
    have v8 := (hF 8 (by decide) (hD 8 (by kernel_rfl))).eq rfl
    have g8 := hG 8 14 rfl (Nat.le_of_ble_eq_true rfl)
    rw [v8] at g8
    have v14 := (hF 14 (by decide) (hD 14 (by kernel_rfl))).eq rfl
    have g14 := hG 14 20 rfl (Nat.le_of_ble_eq_true rfl)
    rw [v14] at g14
    go_wp2_with fail
    first | exact ⟨_, rfl, Below.refl _ _, VK.val rfl rfl, trivial⟩ | exact ⟨_, rfl, Below.refl _ _, VK.val rfl rfl⟩
  · intro ys done W aa hE hn hF hD hZ hG hO
    replace hE : Below w.heap.size w W := hE
    have v15 := (hF 15 (by decide) (hD 15 (by kernel_rfl))).eq rfl
    have g15 := hG 15 21 rfl (Nat.le_of_ble_eq_true rfl)
    rw [v15] at g15
    go_wp2_with fail
    first | exact ⟨_, rfl, Below.refl _ _, VK.val rfl rfl, trivial⟩ | exact ⟨_, rfl, Below.refl _ _, VK.val rfl rfl⟩
  · intro ys done W aa hE hn hF hD hZ hG hO
    replace hE : Below w.heap.size w W := hE
    have v16 := (hF 16 (by decide) (hD 16 (by kernel_rfl))).eq rfl
    have g16 := hG 16 22 rfl (Nat.le_of_ble_eq_true rfl)
    rw [v16] at g16
    refine BigFrame.wpList_want (by simp [Region.wanted, yielded, g16]) ?_
    intro K hK
    have o0 := hO 0 (by kernel_rfl)
    replace o0 : aa.tmps[0]? = some (.pointer (some ⟨p, 0, none⟩)) := o0
    go_wp2_with fail
    first | exact ⟨_, rfl, Below.refl _ _, VK.val rfl rfl, trivial⟩ | exact ⟨_, rfl, Below.refl _ _, VK.val rfl rfl⟩
  · intro ys done W aa hE hn hF hD hZ hG hO
    replace hE : Below w.heap.size w W := hE
    have v16 := (hF 16 (by decide) (hD 16 (by kernel_rfl))).eq rfl
    have g16 := hG 16 22 rfl (Nat.le_of_ble_eq_true rfl)
    rw [v16] at g16
    refine BigFrame.wpList_want (by simp [Region.wanted, yielded, g16]) ?_
    intro K hK
    have v17 := (hF 17 (by decide) (hD 17 (by kernel_rfl))).eq rfl
    have g17 := hG 17 23 rfl (Nat.le_of_ble_eq_true rfl)
    rw [v17] at g17
    go_wp2_with fail
    refine (Total_any W (h'.out.on hE).a ho.out).mono ?_
    rintro e W' ⟨rfl, hb'⟩
    replace hb' := Lib.hid hb'
    go_wp2_with fail
    first | exact ⟨_, rfl, hb'.out, VK.val rfl rfl, trivial⟩ | exact ⟨_, rfl, hb'.out, VK.val rfl rfl⟩
  · intro ys done W aa hE hn hF hD hZ hG hO
    replace hE : Below w.heap.size w W := hE
    have v16 := (hF 16 (by decide) (hD 16 (by kernel_rfl))).eq rfl
    have g16 := hG 16 22 rfl (Nat.le_of_ble_eq_true rfl)
    rw [v16] at g16
    refine BigFrame.wpList_want (by simp [Region.wanted, yielded, g16]) ?_
    intro K hK
    have o1 := hO 1 (by kernel_rfl)
    replace o1 : aa.tmps[1]? = some (.pointer (some ⟨pr, 0, none⟩)) := o1
    go_wp2_with fail
    first | exact ⟨_, rfl, Below.refl _ _, VK.val rfl rfl, trivial⟩ | exact ⟨_, rfl, Below.refl _ _, VK.val rfl rfl⟩
  · intro ys done W aa hE hn hF hD hZ hG hO
    replace hE : Below w.heap.size w W := hE
    have v16 := (hF 16 (by decide) (hD 16 (by kernel_rfl))).eq rfl
    have g16 := hG 16 22 rfl (Nat.le_of_ble_eq_true rfl)
    rw [v16] at g16
    refine BigFrame.wpList_want (by simp [Region.wanted, yielded, g16]) ?_
    intro K hK
    have v19 := (hF 19 (by decide) (hD 19 (by kernel_rfl))).eq rfl
    have g19 := hG 19 25 rfl (Nat.le_of_ble_eq_true rfl)
    rw [v19] at g19
    go_wp2_with fail
    refine (refTotal_any W (h'.out.on hE).b ho.out).mono ?_
    rintro e W' ⟨rfl, hb'⟩
    replace hb' := Lib.hid hb'
    go_wp2_with fail
    first | exact ⟨_, rfl, hb'.out, VK.val rfl rfl, trivial⟩ | exact ⟨_, rfl, hb'.out, VK.val rfl rfl⟩
  · intro ys done W aa hE hn hF hD hZ hG hO
    replace hE : Below w.heap.size w W := hE
    have v16 := (hF 16 (by decide) (hD 16 (by kernel_rfl))).eq rfl
    have g16 := hG 16 22 rfl (Nat.le_of_ble_eq_true rfl)
    rw [v16] at g16
    refine BigFrame.wpList_want (by simp [Region.wanted, yielded, g16]) ?_
    intro K hK
    have v18 := (hF 18 (by decide) (hD 18 (by kernel_rfl))).eq rfl
    have g18 := hG 18 24 rfl (Nat.le_of_ble_eq_true rfl)
    rw [v18] at g18
    have v20 := (hF 20 (by decide) (hD 20 (by kernel_rfl))).eq rfl
    have g20 := hG 20 26 rfl (Nat.le_of_ble_eq_true rfl)
    rw [v20] at g20
    go_wp2_with fail
    first | exact ⟨_, rfl, Below.refl _ _, VK.val rfl rfl, trivial⟩ | exact ⟨_, rfl, Below.refl _ _, VK.val rfl rfl⟩
 case hQA =>
  intro ys w6 hE hF _
  replace hE : Below w.heap.size w w6 := hE
  have v16 := (hF 16 (by decide)).eq rfl
  have v21 := (hF 21 (by decide)).eq rfl
  simp only [List.take_succ_cons, List.take_zero, List.drop_succ_cons, List.drop_zero, Sched.fill, v16, v21]
  clear hF v16 v21
  go_simp
  have hbw0 := Lib.hid hE
  clear hE hbx b1
  have b1 := (hbx'.out.keep hbw0.out hbx'.out.inside).cell 1
  simp at b1
  have hp6 := (hbx'.out.keep hbw0.out hbx'.out.inside).inside
  go_wp2
  go_loopw [5] (fun c wr => ∃ k : Nat, k ≤ Nt + 2 ∧ c = .int .i64 ((k : Int) - 1) ∧ Below w.heap.size w wr)
   (fun c _ => Nt + 2 - (intOf c + 1).toNat)
  case atStart => exact ⟨0, Nat.zero_le _, rfl, hbw0.out⟩
  case round =>
   obtain ⟨k, hk, rfl, hbw⟩ := hrel
   clear b1 hp6
   have hA := Lib.hid (h'.out.on hbw)
   have hbx := hbx'.out.keep hbw hbx'.out.inside
   have b1 := hbx.cell 1
   simp at b1
   have hp6 := hbx.inside
   by_cases hlt : k < Nt + 2
   · have hki : (k : Int) - 1 ≤ (Nt : Int) := by omega
     obtain ⟨r, hr⟩ : ∃ r, (k : Int) - 1 = r := ⟨_, rfl⟩
     have hrb : -1 ≤ r ∧ r ≤ 1000 := by omega
     rw [hr] at hki ⊢
     have hHas := Has_any r wr hA.out.a ho.out
     have hsz := hbw.size
     have hbw' := Lib.hid hbw
     have hkr := Lib.hid hr
     have hkN := Lib.hid hlt
     obtain ⟨V, hV⟩ : ∃ V, whereV S.rows r = V := ⟨_, rfl⟩
     rw [hV] at hHas
     have hVb : -1 ≤ V ∧ V ≤ 4 := by have h1 := where_bd S.rows r; have h2 := ho.out.small; omega
     have hV' := Lib.hid hV
     clear hbw hr hV hbx
     go_wp2_with fail
     refine hHas.mono ?_
     clear hHas b1
     rintro e w2 ⟨rfl, hb2⟩
     have hB2 := Lib.hid (hbw'.out.trans (hb2.mono hsz))
     have hA2 := Lib.hid (h'.out.on hB2.out)
     have hW2 := refWhere_any r w2 hA2.out.b ho.out.shorts (by have := ho.out.small; omega)
     rw [hV'.out] at hW2
     have hs2 := hB2.out.size
     clear hb2
     go_wp2_with fail
     refine hW2.mono ?_
     clear hW2
     rintro e w3 ⟨rfl, rfl⟩
     have hW3 := Where_any r w3 hA2.out.a ho.out
     rw [hV'.out] at hW3
     have tail : ∀ w4, Below w.heap.size w w4 → True := fun _ _ => trivial
     clear tail
     by_cases hV0 : 0 ≤ V
     all_goals
      go_wp2_with fail
      refine hW3.mono ?_
      clear hW3
      rintro e w4 ⟨rfl, hb4⟩
      have hB4 := Lib.hid (hB2.out.trans (hb4.mono hs2))
      have hA4 := Lib.hid (h'.out.on hB4.out)
      have hW4 := refWhere_any r w4 hA4.out.b ho.out.shorts (by have := ho.out.small; omega)
      rw [hV'.out] at hW4
      clear hb4
      go_wp2_with fail
      refine hW4.mono ?_
      clear hW4
      rintro e w5 ⟨rfl, rfl⟩
      go_wp2
      go_roundw
      case rel => exact ⟨k + 1, hkN.out, by have := hkr.out; go_num, hB4.out⟩
      case measure => have := hkr.out; simp [intOf]; omega
   · have hk2 : (k : Int) - 1 = (Nt : Int) + 1 := by omega
     rw [hk2]
     have hn1 : ¬ ((Nt : Int) + 1 ≤ (Nt : Int)) := by omega
     clear hbx
     go_wp2
     go_ret
     exact ⟨rfl, hbw⟩
def reqA (y : Int) : Int := y % 12 - 1
def stepS (S : St) (x y : Int) : St := if x % 4 = 0 then putS S (reqA y) else if x % 4 = 1 then takeS S (reqA y) else S
theorem Two.mid {D G D' G' : Nat → Prop} {lo : Nat} {W W' : World} {p pr gr : Nat} {vf vt : Value} {cap : Nat} {us : List Value} {S : St} (h : Two D G lo W p pr gr vf vt cap us S) (hc : Chg G W W') (hg : Grew D D' W W') (hG : ∀ k, G' k → G k ∨ W.heap.size ≤ k) : RefAt D' lo W' pr gr vf vt cap us S ∧ ¬ G' gr :=
 ⟨h.b.went hc (fun k hk => ⟨h.a.sub k hk, fun e => h.ng (by rw [← e]; exact hk)⟩) hg, fun hk => (hG gr hk).elim h.ng (fun hl => by have := h.b.grIn; omega)⟩
def Next (D G : Nat → Prop) (lo : Nat) (w w' : World) (p pr gr : Nat) (vf vt : Value) (cap : Nat) (S' : St) : Prop :=
 ∃ D' G' us', Two D' G' lo w' p pr gr vf vt cap us' S' ∧ Grew D D' w w' ∧ Chg D w w'
theorem Next.of {D G D' G' : Nat → Prop} {lo : Nat} {w0 w w2 w3 : World} {p pr gr : Nat} {vf vt : Value} {cap : Nat} {us us' : List Value} {S S' : St} (hb : Below w0.heap.size w0 w) (hlt : ∀ k, D k → k < w0.heap.size) (h : Two D G lo w p pr gr vf vt cap us S) (hc : Chg G w w2) (ha : PlanAt D' G' w2 p S') (hg : Grew D D' w w2) (hG : ∀ k, G' k → G k ∨ w.heap.size ≤ k)
 (hr : RefAt D' lo w3 pr gr vf vt cap us' S') (hc2 : Chg (fun k => k = gr) w2 w3) (ho : Ok S') : Next D G lo w0 w3 p pr gr vf vt cap S' := by
 have hng := (h.mid hc hg hG).2
 have hgD := h.b.gd
 refine ⟨D', G', us', ⟨ha.chg hc2 (fun k e => by rw [e]; exact ⟨hg.up _ hgD, hng⟩), hr, ho, hng⟩, ⟨hg.up, fun k hk => (hg.new k hk).elim .inl (fun hl => .inr (Nat.le_trans hb.size hl)), fun k hk => Nat.lt_of_lt_of_le (hg.lt k hk) hc2.size⟩, ?_⟩
 exact (Chg.of_below hb).trans ((hc.mono (fun k hk => h.a.sub k hk)).trans (hc2.mono (fun k e => by rw [e]; exact hgD)))
theorem Next.same {D G : Nat → Prop} {lo : Nat} {w w' : World} {p pr gr : Nat} {vf vt : Value} {cap : Nat} {us : List Value} {S : St} (h : Two D G lo w p pr gr vf vt cap us S) (hb : Below w.heap.size w w') : Next D G lo w w' p pr gr vf vt cap S :=
 ⟨D, G, us, h.on hb, Grew.same h.b.lt hb.size, Chg.of_below hb⟩
set_option maxRecDepth 100000 in
set_option maxHeartbeats 8000000 in
theorem does_any {D G : Nat → Prop} {lo : Nat} {p pr gr : Nat} {vf vt : Value} {cap : Nat} {us : List Value} {S : St} (x y : Int) (hx : 0 ≤ x ∧ x < 256) (hy : 0 ≤ y ∧ y < 256) (w : World) (h : Two D G lo w p pr gr vf vt cap us S) (hsg : Sg w) :
 Calls Tryz.prog 15 #[.pointer (some ⟨p, 0, none⟩), .pointer (some ⟨pr, 0, none⟩), .agg #[.int .u8 x, .int .u8 y]] w fun e w' => e = .returned (.bool true) ∧ Next D G lo w w' p pr gr vf vt cap (stepS S x y) := by
 obtain ⟨q, hq⟩ : ∃ q, w.heap.size = q := ⟨_, rfl⟩
 obtain ⟨w1, hw1⟩ : ∃ w1, w.alloc (.cells #[.int .u8 x, .int .u8 y] 41) = w1 := ⟨_, rfl⟩
 have hA : At w1 q 41 #[.int .u8 x, .int .u8 y] := by rw [← hw1]; exact At.new_ _ _ _ hq.symm
 have hb1 : Below w.heap.size w w1 := by rw [← hw1]; exact (Below.refl _ _).alloc (Nat.le_refl _) _
 have hT1 := Lib.hid (h.on hb1)
 have hsg1 := Lib.hid (hsg.on hb1)
 have hlt := Lib.hid h.b.lt
 have hT0 := Lib.hid h
 have ho := Lib.hid h.ok
 have c0 := hA.cell 0
 have c1 := hA.cell 1
 simp at c0 c1
 have hqi := hA.inside
 obtain ⟨hx0, hx1⟩ := hx
 obtain ⟨hy0, hy1⟩ := hy
 have hw1' := Lib.hid hw1
 have hq' := Lib.hid hq
 have hb1' := Lib.hid hb1
 obtain ⟨r, hr⟩ : ∃ r, y % 12 - 1 = r := ⟨_, rfl⟩
 have hrb : -1 ≤ r ∧ r ≤ 10 := by omega
 have hrA : Hid (reqA y = r) := Lib.hid hr
 clear hw1 hq h hb1 hsg hA
 by_cases hx4 : x % 4 = 0
 · have hst := Lib.hid (show stepS S x y = putS S r by unfold stepS; rw [if_pos hx4, hrA.out])
   have hPut := Put_any r w1 hT1.out.a ho.out hsg1.out
   go_enter Tryz.func15, Tryz.ntmps15
   go_upto_region 1 with fail
   try simp only [hq'.out]
   try rw [hw1'.out]
   go_upto_region 2 with fail
   try rw [hr]
   go_wp2_with fail
   refine hPut.mono ?_
   clear hPut
   rintro e w2 ⟨rfl, ⟨D1, G1, hP1, hg1, hG1⟩, hc1⟩
   have hmid := hT1.out.mid hc1 hg1 hG1
   have hRef := refPut_in r w2 hmid.1 ho.out
   have hk := Lib.hid (And.intro hP1 (And.intro hg1 (And.intro hG1 hc1)))
   clear hP1 hg1 hG1 hc1 hmid
   go_wp2_with fail
   refine hRef.mono ?_
   clear hRef
   rintro e w3 ⟨rfl, ⟨us3, hr3⟩, hc3⟩
   obtain ⟨hP1, hg1, hG1, hc1⟩ := hk.out
   have hfin := Lib.hid (Next.of hb1'.out hlt.out hT1.out hc1 hP1 hg1 hG1 hr3 hc3 (put_ok ho.out r))
   clear hr3 hc3 hP1 hg1 hG1 hc1 c0 c1
   go_wp2
   go_ret
   exact ⟨rfl, by rw [hst.out]; exact hfin.out⟩
 by_cases hx5 : x % 4 = 1
 · have hst := Lib.hid (show stepS S x y = takeS S r by unfold stepS; rw [if_neg hx4, if_pos hx5, hrA.out])
   have hPut := Take_any r w1 hT1.out.a ho.out
   go_enter Tryz.func15, Tryz.ntmps15
   go_upto_region 1 with fail
   try simp only [hq'.out]
   try rw [hw1'.out]
   go_upto_region 2 with fail
   try rw [hr]
   go_wp2_with fail
   refine hPut.mono ?_
   clear hPut
   rintro e w2 ⟨rfl, ⟨D1, G1, hP1, hg1, hG1⟩, hc1⟩
   have hmid := hT1.out.mid hc1 hg1 hG1
   have hRef := refTake_any r w2 hmid.1 ho.out
   have hk := Lib.hid (And.intro hP1 (And.intro hg1 (And.intro hG1 hc1)))
   clear hP1 hg1 hG1 hc1 hmid
   go_wp2_with fail
   refine hRef.mono ?_
   clear hRef
   rintro e w3 ⟨rfl, ⟨us3, hr3⟩, hc3⟩
   obtain ⟨hP1, hg1, hG1, hc1⟩ := hk.out
   have hfin := Lib.hid (Next.of hb1'.out hlt.out hT1.out hc1 hP1 hg1 hG1 hr3 hc3 (take_ok ho.out r))
   clear hr3 hc3 hP1 hg1 hG1 hc1 c0 c1
   go_wp2
   go_ret
   exact ⟨rfl, by rw [hst.out]; exact hfin.out⟩
 · have hst := Lib.hid (show stepS S x y = S by unfold stepS; rw [if_neg hx4, if_neg hx5])
   have hPr := Price_any r w1 hT1.out.a ho.out hsg1.out
   have hx6 : (x % 4 == 0) = false := by simpa using hx4
   have hx7 : (x % 4 == 1) = false := by simpa using hx5
   go_enter Tryz.func15, Tryz.ntmps15
   go_upto_region 1 with fail
   try simp only [hq'.out]
   try rw [hw1'.out]
   go_upto_region 2 with fail
   try rw [hr]
   go_wp2_with fail
   refine hPr.mono ?_
   clear hPr
   rintro e w2 ⟨rfl, hb2⟩
   have hT2 := Lib.hid (hT1.out.on hb2)
   have hRf := refPrice_any r w2 hT2.out.b ho.out
   have hb2' := Lib.hid (hb1'.out.trans (hb2.mono hb1'.out.size))
   clear hb2
   go_wp2_with fail
   refine hRf.mono ?_
   clear hRf
   rintro e w3 ⟨rfl, hb3⟩
   have hfin := Lib.hid (Next.same hT0.out (hb2'.out.trans (hb3.mono hb2'.out.size)))
   clear hb3 c0 c1
   go_wp2
   go_ret
   exact ⟨rfl, by rw [hst.out]; exact hfin.out⟩
end Go.Proofs.YtlbghdiebjldjaaGreatDoor.Plan
namespace Go.Proofs.YtlbghdiebjldjaaGreatDoor.Plan
open Go.RowKit Go.Proofs.YtlbghdiebjldjaaGreatDoor.Order Go.Proofs.YtlbghdiebjldjaaGreatDoor.Place Go.Proofs.YtlbghdiebjldjaaGreatDoor.Route Go.Proofs.YtlbghdiebjldjaaGreatDoor.When Go.Proofs.YtlbghdiebjldjaaGreatDoor.Load Go.Proofs.YtlbghdiebjldjaaGreatDoor.Feas Go.Proofs.YtlbghdiebjldjaaGreatDoor.Ins Go.Proofs.YtlbghdiebjldjaaGreatDoor.Cheap
set_option linter.unusedVariables false
theorem empty_right {v : Vh} {t : List Rq} (hv : v.chk = 0) (ht : ∀ q ∈ t, q.chk = 0) : errT v [] t = 0 ∧ fitE v [] t = 0 := by
 have hw : wrongV v [] t = 0 := by
  unfold wrongV
  rw [if_neg (by omega), if_neg, if_neg (by decide), if_neg (by simp)]
  rw [List.any_eq_true]
  rintro ⟨q, h1, h2⟩
  simp [ht q h1] at h2
 have hc := hv
 unfold Vh.chk at hc
 rw [Order.veh_iff] at hc
 have hd : distV (v.hx, v.hy) (v.hx, v.hy) = 0 := by unfold distV gap; simp
 have ho : okT v [] t = true := by
  unfold okT
  rw [Bool.and_eq_true]
  refine ⟨rfl, ?_⟩
  rw [decide_eq_true_eq]
  show v.st + distV (v.hx, v.hy) (v.hx, v.hy) ≤ v.en
  rw [hd]
  omega
 refine ⟨?_, ?_⟩
 · unfold errT
   rw [if_neg (by omega), ho]
   rfl
 · unfold fitE
   have h1 : toldV [] t = 0 := rfl
   have h2 : moreB v.cp (profV [] t) = false := by unfold profV; rw [h1]; rfl
   rw [if_neg (by omega), if_neg (by omega), h2]
   rfl
theorem new_Ok {vs : List Vh} {t : List Rq} (hc : 1 ≤ vs.length ∧ vs.length ≤ 4) (ht : t.length ≤ 1000) (hq : ∀ q ∈ t, q.chk = 0) (hv : ∀ v ∈ vs, v.chk = 0) : Ok (newS vs t) :=
 new_ok hc ht hq hv (fun v hm => empty_right (hv v hm) hq)
def vA : Vh := ⟨0, 0, 5, 0, 40⟩
def vB : Vh := ⟨20, 0, 5, 0, 40⟩
def rq0 : Rq := ⟨5, 0, 9, 0, 0, 20, 0, 30, 3, 1⟩
def rq1 : Rq := ⟨15, 0, 18, 0, 0, 40, 0, 40, 2, 0⟩
def chV : List Vh := [vA, vB]
def chT : List Rq := [rq0, rq1]
def ch0 : St := newS chV chT
def ch1 : St := putS ch0 0
def ch2 : St := putS ch1 1
def ch3 : St := takeS ch2 0
theorem ch0_ok : Ok ch0 := new_Ok (by decide) (by decide) (by decide +kernel) (by decide +kernel)
theorem ch1_ok : Ok ch1 := put_ok ch0_ok 0
theorem ch2_ok : Ok ch2 := put_ok ch1_ok 1
theorem ch3_ok : Ok ch3 := take_ok ch2_ok 0
theorem ch_p0 : priceI ch0 0 = 0 ∧ priceN ch0 0 = 20 ∧ priceE ch0 0 = 0 := by decide +kernel
theorem ch_p1 : priceI ch0 1 = 1 ∧ priceN ch0 1 = 10 ∧ priceE ch0 1 = 0 := by decide +kernel
theorem ch_p2 : priceE ch0 2 = 8 := by decide +kernel
theorem ch_q1 : priceN ch1 1 = 10 ∧ priceE ch1 1 = 0 := by decide +kernel
theorem ch_q2 : priceE ch2 1 = 13 := by decide +kernel
theorem ch_rows : ch2.rows = [[(0, 0), (0, 1)], [(1, 0), (1, 1)]] := by decide +kernel
theorem ch_all : allS ch2 = [0, 1] := by decide +kernel
theorem ch_tot : totS ch2 = 30 := by decide +kernel
theorem ch_t2 : takeE ch2 0 = 0 := by decide +kernel
theorem ch_t3 : takeE ch3 0 = 12 := by decide +kernel
theorem ch_tot3 : totS ch3 = 10 := by decide +kernel
end Go.Proofs.YtlbghdiebjldjaaGreatDoor.Plan

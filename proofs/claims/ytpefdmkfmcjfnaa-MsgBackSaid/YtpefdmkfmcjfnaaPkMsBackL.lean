import Derived.Test.YtpefdmkfmcjfnaaPkDfMay
import Derived.Test.YtpefdmkfmcjfnaaPkMsWorks

namespace Go.Proofs.Ytpefdmkfmcjfnaa.Df
open Go.RowKit Go.Sort Go.Proofs.Ytpefdmkfmcjfnaa.Mem Go.Proofs.Ytpefdmkfmcjfnaa.Route Go.Proofs.Ytpefdmkfmcjfnaa.Oct Go.Proofs.Ytpefdmkfmcjfnaa.Ms Go.Proofs.Ytpefdmkfmcjfnaa.Part Go.Proofs.Ytpefdmkfmcjfnaa.Mp Go.Proofs.Ytpefdmkfmcjfnaa.Feas
set_option linter.unusedVariables false
attribute [local go_sem] str_append str_from str_to
theorem dec_ok (s : Bs) : (decS s).1.ok ∧ (decS s).1.wide := by
 rw [dec_is]
 split
 · exact ⟨z_ok, z_wide⟩
 split
 · exact rdM_ok s
 · exact ⟨z_ok, z_wide⟩
theorem dec_err {s : Bs} (h : (decS s).2 ≠ 0) : (decS s).1 = z0 := by
 rw [dec_is] at h ⊢
 split
 · rfl
 split
 · rename_i h1 h2
   rw [if_neg h1, if_pos h2] at h
   exact absurd rfl h
 · rfl
theorem dec_fine {s : Bs} (h : (decS s).2 = 0) : mayB (decS s).1 = true ∧ encL (decS s).1 = s := dec_inv (m := (decS s).1) (by rw [← h])
set_option maxRecDepth 100000 in
set_option maxHeartbeats 16000000 in
theorem back_walk (a b : Dr) (ha : a.ok) (hb : b.ok) (x : Option Addr) (L cap : Nat) (y : Option Addr) (K cb : Nat) (s : Bs) (hs : s.length ≤ 9223372036854775000) (w : World) (hba : BytesAt w.heap.size w (.slice x L cap) a.bs) (hbb : BytesAt w.heap.size w (.slice y K cb) b.bs) :
 Calls Try.prog 5 #[.agg (drC a (.slice x L cap)).toArray, .agg (drC b (.slice y K cb)).toArray, .string (str s)] w fun e w' => e = .returned (.bool true) ∧ Below w.heap.size w w' := by
 have hA : At ((w.alloc (.cells (drC a (.slice x L cap)).toArray 28)).alloc (.cells (drC b (.slice y K cb)).toArray 28)) w.heap.size 28 (drC a (.slice x L cap)).toArray := (At.new w _ _).alloc _
 have hC : At ((w.alloc (.cells (drC a (.slice x L cap)).toArray 28)).alloc (.cells (drC b (.slice y K cb)).toArray 28)) (w.heap.size + 1) 28 (drC b (.slice y K cb)).toArray := by
  have := At.new (w.alloc (.cells (drC a (.slice x L cap)).toArray 28)) 28 (drC b (.slice y K cb)).toArray
  rwa [World.size_alloc] at this
 have hB : Below w.heap.size w ((w.alloc (.cells (drC a (.slice x L cap)).toArray 28)).alloc (.cells (drC b (.slice y K cb)).toArray 28)) := ((Below.refl _ _).alloc (Nat.le_refl _) _).alloc (by simp) _
 obtain ⟨n, hn⟩ : ∃ n, w.heap.size = n := ⟨_, rfl⟩
 have hbW := hba.keep hB (Nat.le_refl _)
 have hcW := hbb.keep hB (Nat.le_refl _)
 rw [hn] at hA hC hB hbW hcW
 rw [show Below w.heap.size w = Below n w by rw [hn]]
 go_enter Try.func5, Try.ntmps5
 go_upto_region 1 with fail
 try simp only [hn]
 generalize (w.alloc (.cells (drC a (.slice x L cap)).toArray 28)).alloc (.cells (drC b (.slice y K cb)).toArray 28) = W at hA hC hB hbW hcW ⊢
 obtain ⟨p, hp⟩ : ∃ p, n + 1 = p := ⟨_, rfl⟩
 rw [hp] at hC
 try simp only [hp]
 have hnp : n < p := by omega
 have hpW : p < W.heap.size := hC.inside
 have hzB : n ≤ W.heap.size := by omega
 replace hn := Lib.hid hn
 clear hp hba hbb
 have h1 := Lib.hid (works_any W)
 replace hB := Lib.hid hB
 replace hA := Lib.hid hA
 replace hC := Lib.hid hC
 go_wp2_with fail
 refine h1.out.mono ?_
 rintro e w2 ⟨rfl, hb1⟩
 have hA2 := Lib.hid (At.keep hA.out hb1 (by omega))
 have hC2 := Lib.hid (At.keep hC.out hb1 hpW)
 have hbW2 := Lib.hid (RowB.keep hbW hb1 hzB)
 have hcW2 := Lib.hid (RowB.keep hcW hb1 hzB)
 have hB2 := Lib.hid (hB.out.trans (hb1.mono hzB))
 have hsz2 : p < w2.heap.size := hC2.out.inside
 clear hA hC hB hbW hcW h1 hb1 hzB hpW
 have hoka := draft_ok a
 have hokb := draft_ok b
 have hwa := draft_wide ha
 have hwb := draft_wide hb
 have hma := draft_may ha
 have hmb := draft_may hb
 have hMa := Lib.hid (fun W hW => msg_len a ha x L cap W hW)
 have hMb := Lib.hid (fun W hW => msg_len b hb y K cb W hW)
 obtain ⟨ma, hmae⟩ : ∃ m, draftM a = m := ⟨_, rfl⟩
 obtain ⟨mb, hmbe⟩ : ∃ m, draftM b = m := ⟨_, rfl⟩
 simp only [hmae] at hMa hoka hwa hma
 simp only [hmbe] at hMb hokb hwb hmb
 have hxa := enc_max hoka hma hwa
 have hxb := enc_max hokb hmb hwb
 have e1 : encE ma = 0 := by rw [encE, if_pos hma]
 have e2 : encE mb = 0 := by rw [encE, if_pos hmb]
 have hEa := Lib.hid (fun W yy c hM => Encode_any ma yy ma.marks.length c hoka hwa W hM)
 have hEb := Lib.hid (fun W yy c hM => Encode_any mb yy mb.marks.length c hokb hwb W hM)
 simp only [e1] at hEa
 simp only [e2] at hEb
 have hde := dec_enc hoka hwa hma
 have hinj : (encL ma == encL mb) = sameB ma mb := by
  rw [Bool.eq_iff_iff, beq_iff_eq, sameB_iff]
  exact ⟨fun h => enc_inj hoka hwa hokb hwb hma hmb h, fun h => by rw [h]⟩
 obtain ⟨Sa, hSa⟩ : ∃ S, encL ma = S := ⟨_, rfl⟩
 obtain ⟨Sb, hSb⟩ : ∃ S, encL mb = S := ⟨_, rfl⟩
 simp only [hSa] at hEa hxa hde hinj
 simp only [hSb] at hEb hxb hinj
 have hDa := Lib.hid (fun W => Decode_any Sa (by omega) W)
 simp only [hde] at hDa
 have hda := hoka.dig
 have hdb := hokb.dig
 obtain ⟨ka, hka⟩ : ∃ l, ma.marks.length = l := ⟨_, rfl⟩
 obtain ⟨kb, hkb⟩ : ∃ l, mb.marks.length = l := ⟨_, rfl⟩
 simp only [hka] at hMa hEa
 simp only [hkb] at hMb hEb
 obtain ⟨same, hsame⟩ : ∃ t, sameB ma mb = t := ⟨_, rfl⟩
 rw [hsame] at hinj
 have hst : (Sa == Sb) = same := hinj
 replace hst := Lib.hid hst
 replace hsame := Lib.hid hsame
 clear hmae hmbe hSa hSb e1 e2 hma hmb hwa hwb hka hkb hde hinj hxa hxb
 go_upto_region 3 with fail
 refine Sched.wp_region_sched 6 (fun W W' => Below W.heap.size W W') (VK [.val (.agg #[.int .u8 (a.kd : Int), .int .u16 (a.n0 : Int), .int .u16 (a.n1 : Int), .int .u16 (a.n2 : Int), .int .u16 (a.n3 : Int), .int .u16 (a.n4 : Int), .int .u16 (a.n5 : Int), .int .u16 (a.n6 : Int), .int .u16 (a.n7 : Int), .int .u64 (a.b0 : Int), .int .u64 (a.b1 : Int), .slice x L cap]), .of (fun v W => ∃ (y : Option Addr) (c : Nat), v = .agg (msC ma (.slice y ka c)).toArray ∧ OwnM 0 W (.slice y ka c) ma.marks) (fun ⟨y, c, e, h⟩ hb => ⟨y, c, e, h.below hb⟩), .val (.agg #[.int .u8 (b.kd : Int), .int .u16 (b.n0 : Int), .int .u16 (b.n1 : Int), .int .u16 (b.n2 : Int), .int .u16 (b.n3 : Int), .int .u16 (b.n4 : Int), .int .u16 (b.n5 : Int), .int .u16 (b.n6 : Int), .int .u16 (b.n7 : Int), .int .u64 (b.b0 : Int), .int .u64 (b.b1 : Int), .slice y K cb]), .of (fun v W => ∃ (y : Option Addr) (c : Nat), v = .agg (msC mb (.slice y kb c)).toArray ∧ OwnM 0 W (.slice y kb c) mb.marks) (fun ⟨y, c, e, h⟩ hb => ⟨y, c, e, h.below hb⟩), .of (fun v W => ∃ q : Nat, v = .pointer (some ⟨q, 0, none⟩) ∧ AtL W q 42 (msC z0 nilS) ∧ n ≤ q) (fun ⟨q, e, h, hm⟩ hb => ⟨q, e, h.on hb, hm⟩), .of (fun v W => ∃ q : Nat, v = .pointer (some ⟨q, 0, none⟩) ∧ AtL W q 42 (msC z0 nilS) ∧ n ≤ q) (fun ⟨q, e, h, hm⟩ hb => ⟨q, e, h.on hb, hm⟩)]) (fun done ys _ => done 4 = true → done 5 = true → ys 4 ≠ ys 5) (by kernel_rfl) (by kernel_rfl) (by kernel_rfl) (fun h1 h2 => belowTr h1 h2) (fun h1 h2 => VK.keep h1 h2) (Below.refl _ _).drew (fun _ h => by cases h) (Sched.StepsA.steps (by kernel_rfl) ?hS) ?hQ
 case hS =>
  simp only [List.take_succ_cons, List.take_zero]
  refine ⟨?_, ?_, ?_, ?_, ?_, ?_, trivial⟩
  · intro ys done W aa hE hn hF hD hZ hG hO
    replace hE : Below w2.heap.size w2 W := hE
    replace hZ : done 4 = true → done 5 = true → ys 4 ≠ ys 5 := hZ
    have o3 := hO 3 (by kernel_rfl)
    replace o3 : aa.tmps[3]? = some (.pointer (some ⟨n, 0, none⟩)) := o3
    have hZ2 := Lib.hid hZ
    have hZk := Lib.hid (show ∀ v, Sched.mark done 0 4 = true → Sched.mark done 0 5 = true → Sched.upd ys 0 v 4 ≠ Sched.upd ys 0 v 5 from fun v h4 h5 => hZ2.out h4 h5)
    have p0 : W.cell? ⟨n, 0, none⟩ = some (.int .u8 (a.kd : Int)) := dr_cell (At.keep hA2.out hE (by omega)) 0 rfl
    have p1 : W.cell? ⟨n, 1, none⟩ = some (.int .u16 (a.n0 : Int)) := dr_cell (At.keep hA2.out hE (by omega)) 1 rfl
    have p2 : W.cell? ⟨n, 2, none⟩ = some (.int .u16 (a.n1 : Int)) := dr_cell (At.keep hA2.out hE (by omega)) 2 rfl
    have p3 : W.cell? ⟨n, 3, none⟩ = some (.int .u16 (a.n2 : Int)) := dr_cell (At.keep hA2.out hE (by omega)) 3 rfl
    have p4 : W.cell? ⟨n, 4, none⟩ = some (.int .u16 (a.n3 : Int)) := dr_cell (At.keep hA2.out hE (by omega)) 4 rfl
    have p5 : W.cell? ⟨n, 5, none⟩ = some (.int .u16 (a.n4 : Int)) := dr_cell (At.keep hA2.out hE (by omega)) 5 rfl
    have p6 : W.cell? ⟨n, 6, none⟩ = some (.int .u16 (a.n5 : Int)) := dr_cell (At.keep hA2.out hE (by omega)) 6 rfl
    have p7 : W.cell? ⟨n, 7, none⟩ = some (.int .u16 (a.n6 : Int)) := dr_cell (At.keep hA2.out hE (by omega)) 7 rfl
    have p8 : W.cell? ⟨n, 8, none⟩ = some (.int .u16 (a.n7 : Int)) := dr_cell (At.keep hA2.out hE (by omega)) 8 rfl
    have p9 : W.cell? ⟨n, 9, none⟩ = some (.int .u64 (a.b0 : Int)) := dr_cell (At.keep hA2.out hE (by omega)) 9 rfl
    have p10 : W.cell? ⟨n, 10, none⟩ = some (.int .u64 (a.b1 : Int)) := dr_cell (At.keep hA2.out hE (by omega)) 10 rfl
    have p11 : W.cell? ⟨n, 11, none⟩ = some (.slice x L cap) := dr_cell (At.keep hA2.out hE (by omega)) 11 rfl
    clear hZ
    go_wp2_with fail
    exact ⟨_, rfl, Below.refl _ _, VK.val rfl rfl, hZk.out _⟩
  · intro ys done W aa hE hn hF hD hZ hG hO
    replace hE : Below w2.heap.size w2 W := hE
    replace hZ : done 4 = true → done 5 = true → ys 4 ≠ ys 5 := hZ
    have v0 := (hF 0 (by decide) (hD 0 (by kernel_rfl))).eq rfl
    have g0 := hG 0 21 rfl (Nat.le_of_ble_eq_true rfl)
    rw [v0] at g0
    have hZ2 := Lib.hid hZ
    have hZk := Lib.hid (show ∀ v, Sched.mark done 1 4 = true → Sched.mark done 1 5 = true → Sched.upd ys 1 v 4 ≠ Sched.upd ys 1 v 5 from fun v h4 h5 => hZ2.out h4 h5)
    have hC := Lib.hid (hMa.out W ((RowB.keep hbW2.out hE (by omega)).more (Nat.le_trans (by omega) hE.size)))
    clear hZ
    go_wp2_with fail
    refine hC.out.mono ?_
    rintro e W' ⟨yy, cc, rfl, hO', hb'⟩
    replace hb' := Lib.hid hb'
    replace hO' := Lib.hid (hO'.less (Nat.zero_le _))
    go_wp2_with fail
    exact ⟨_, rfl, hb'.out, VK.of rfl ⟨_, _, rfl, hO'.out⟩, hZk.out _⟩
  · intro ys done W aa hE hn hF hD hZ hG hO
    replace hE : Below w2.heap.size w2 W := hE
    replace hZ : done 4 = true → done 5 = true → ys 4 ≠ ys 5 := hZ
    have o4 := hO 4 (by kernel_rfl)
    replace o4 : aa.tmps[4]? = some (.pointer (some ⟨p, 0, none⟩)) := o4
    have hZ2 := Lib.hid hZ
    have hZk := Lib.hid (show ∀ v, Sched.mark done 2 4 = true → Sched.mark done 2 5 = true → Sched.upd ys 2 v 4 ≠ Sched.upd ys 2 v 5 from fun v h4 h5 => hZ2.out h4 h5)
    have p0 : W.cell? ⟨p, 0, none⟩ = some (.int .u8 (b.kd : Int)) := dr_cell (At.keep hC2.out hE (by omega)) 0 rfl
    have p1 : W.cell? ⟨p, 1, none⟩ = some (.int .u16 (b.n0 : Int)) := dr_cell (At.keep hC2.out hE (by omega)) 1 rfl
    have p2 : W.cell? ⟨p, 2, none⟩ = some (.int .u16 (b.n1 : Int)) := dr_cell (At.keep hC2.out hE (by omega)) 2 rfl
    have p3 : W.cell? ⟨p, 3, none⟩ = some (.int .u16 (b.n2 : Int)) := dr_cell (At.keep hC2.out hE (by omega)) 3 rfl
    have p4 : W.cell? ⟨p, 4, none⟩ = some (.int .u16 (b.n3 : Int)) := dr_cell (At.keep hC2.out hE (by omega)) 4 rfl
    have p5 : W.cell? ⟨p, 5, none⟩ = some (.int .u16 (b.n4 : Int)) := dr_cell (At.keep hC2.out hE (by omega)) 5 rfl
    have p6 : W.cell? ⟨p, 6, none⟩ = some (.int .u16 (b.n5 : Int)) := dr_cell (At.keep hC2.out hE (by omega)) 6 rfl
    have p7 : W.cell? ⟨p, 7, none⟩ = some (.int .u16 (b.n6 : Int)) := dr_cell (At.keep hC2.out hE (by omega)) 7 rfl
    have p8 : W.cell? ⟨p, 8, none⟩ = some (.int .u16 (b.n7 : Int)) := dr_cell (At.keep hC2.out hE (by omega)) 8 rfl
    have p9 : W.cell? ⟨p, 9, none⟩ = some (.int .u64 (b.b0 : Int)) := dr_cell (At.keep hC2.out hE (by omega)) 9 rfl
    have p10 : W.cell? ⟨p, 10, none⟩ = some (.int .u64 (b.b1 : Int)) := dr_cell (At.keep hC2.out hE (by omega)) 10 rfl
    have p11 : W.cell? ⟨p, 11, none⟩ = some (.slice y K cb) := dr_cell (At.keep hC2.out hE (by omega)) 11 rfl
    clear hZ
    go_wp2_with fail
    exact ⟨_, rfl, Below.refl _ _, VK.val rfl rfl, hZk.out _⟩
  · intro ys done W aa hE hn hF hD hZ hG hO
    replace hE : Below w2.heap.size w2 W := hE
    replace hZ : done 4 = true → done 5 = true → ys 4 ≠ ys 5 := hZ
    have v2 := (hF 2 (by decide) (hD 2 (by kernel_rfl))).eq rfl
    have g2 := hG 2 23 rfl (Nat.le_of_ble_eq_true rfl)
    rw [v2] at g2
    have hZ2 := Lib.hid hZ
    have hZk := Lib.hid (show ∀ v, Sched.mark done 3 4 = true → Sched.mark done 3 5 = true → Sched.upd ys 3 v 4 ≠ Sched.upd ys 3 v 5 from fun v h4 h5 => hZ2.out h4 h5)
    have hC := Lib.hid (hMb.out W ((RowB.keep hcW2.out hE (by omega)).more (Nat.le_trans (by omega) hE.size)))
    clear hZ
    go_wp2_with fail
    refine hC.out.mono ?_
    rintro e W' ⟨yy, cc, rfl, hO', hb'⟩
    replace hb' := Lib.hid hb'
    replace hO' := Lib.hid (hO'.less (Nat.zero_le _))
    go_wp2_with fail
    exact ⟨_, rfl, hb'.out, VK.of rfl ⟨_, _, rfl, hO'.out⟩, hZk.out _⟩
  · intro ys done W aa hE hn hF hD hZ hG hO
    replace hE : Below w2.heap.size w2 W := hE
    replace hZ : done 4 = true → done 5 = true → ys 4 ≠ ys 5 := hZ
    have hZ2 := Lib.hid hZ
    have hfar := Lib.hid (show done 5 = true → ys 5 ≠ .pointer (some ⟨W.heap.size, 0, none⟩) from fun h => by
     obtain ⟨q, e, hAq, -⟩ := (hF 5 (by decide) h).get rfl
     rw [e]
     have := hAq.inside
     intro e2
     have e3 : q = W.heap.size := by simp at e2
     omega)
    have hN := AtL.new W 42 (msC z0 nilS)
    have hnW : n ≤ W.heap.size := Nat.le_trans (by omega) hE.size
    replace hN := Lib.hid hN
    clear hZ
    go_wp2_with fail
    rw [z0_lit]
    exact ⟨_, rfl, (Below.refl _ _).alloc (Nat.le_refl _) _, VK.of rfl ⟨_, rfl, hN.out, hnW⟩, fun _ h5 => (hfar.out h5).symm⟩
  · intro ys done W aa hE hn hF hD hZ hG hO
    replace hE : Below w2.heap.size w2 W := hE
    replace hZ : done 4 = true → done 5 = true → ys 4 ≠ ys 5 := hZ
    have hZ2 := Lib.hid hZ
    have hfar := Lib.hid (show done 4 = true → ys 4 ≠ .pointer (some ⟨W.heap.size, 0, none⟩) from fun h => by
     obtain ⟨q, e, hAq, -⟩ := (hF 4 (by decide) h).get rfl
     rw [e]
     have := hAq.inside
     intro e2
     have e3 : q = W.heap.size := by simp at e2
     omega)
    have hN := AtL.new W 42 (msC z0 nilS)
    have hnW : n ≤ W.heap.size := Nat.le_trans (by omega) hE.size
    replace hN := Lib.hid hN
    clear hZ
    go_wp2_with fail
    rw [z0_lit]
    exact ⟨_, rfl, (Below.refl _ _).alloc (Nat.le_refl _) _, VK.of rfl ⟨_, rfl, hN.out, hnW⟩, fun h4 _ => hfar.out h4⟩
 case hQ =>
  intro ys w3 hE hF hZ
  replace hE : Below w2.heap.size w2 w3 := hE
  obtain ⟨done, hdn, hZ⟩ := hZ
  have hZ' := hZ (hdn 4 (by decide)) (hdn 5 (by decide))
  obtain ⟨ya, ca, v1, hOa⟩ := (hF 1 (by decide)).get rfl
  obtain ⟨yb, cb', v3, hOb⟩ := (hF 3 (by decide)).get rfl
  obtain ⟨qa, v4, hQa, hna⟩ := (hF 4 (by decide)).get rfl
  obtain ⟨qb, v5, hQb, hnb⟩ := (hF 5 (by decide)).get rfl
  have hab : qa ≠ qb := fun e => hZ' (by rw [v4, v5, e])
  simp only [List.take_succ_cons, List.take_zero, List.drop_succ_cons, List.drop_zero, Sched.fill, v1, v3, v4, v5]
  have hB3 := hB2.out.trans (hE.mono (by omega))
  have hz3 : n ≤ w3.heap.size := Nat.le_trans (by omega) hE.size
  clear hF hZ hZ' v1 v3 v4 v5 hdn hE hA2 hC2 hbW2 hcW2 hB2 hMa hMb
  have hQa1 := atL_eq (hQa.row (putL (msC z0 nilS) 0 (msC ma (.slice ya ka ca)))) (put_msg z0d hda)
  have hQb1 := hQb.rowFar (b := qa) (Ne.symm hab) (putL (msC z0 nilS) 0 (msC ma (.slice ya ka ca))).toArray
  have hOa1 := hOa.rowMsg hQa (putL (msC z0 nilS) 0 (msC ma (.slice ya ka ca))).toArray
  have hOb1 := hOb.rowMsg hQa (putL (msC z0 nilS) 0 (msC ma (.slice ya ka ca))).toArray
  have hB4 := below_row hB3 hna (putL (msC z0 nilS) 0 (msC ma (.slice ya ka ca))).toArray
  have hz4 : n ≤ (w3.setRow qa (putL (msC z0 nilS) 0 (msC ma (.slice ya ka ca))).toArray).heap.size := by rw [setRow_size]; exact hz3
  have hQaH := Lib.hid hQa
  have hQbH := Lib.hid hQb1
  have hQb2 := Lib.hid (atL_eq (hQb1.row (putL (msC z0 nilS) 0 (msC mb (.slice yb kb cb')))) (put_msg z0d hdb))
  have hQa2 := Lib.hid (hQa1.rowFar (b := qb) hab (putL (msC z0 nilS) 0 (msC mb (.slice yb kb cb'))).toArray)
  have hOa2 := Lib.hid (hOa1.rowMsg hQb1 (putL (msC z0 nilS) 0 (msC mb (.slice yb kb cb'))).toArray)
  have hOb2 := Lib.hid (hOb1.rowMsg hQb1 (putL (msC z0 nilS) 0 (msC mb (.slice yb kb cb'))).toArray)
  have hB5 := Lib.hid (below_row hB4 hnb (putL (msC z0 nilS) 0 (msC mb (.slice yb kb cb'))).toArray)
  have hz5 : n ≤ ((w3.setRow qa (putL (msC z0 nilS) 0 (msC ma (.slice ya ka ca))).toArray).setRow qb (putL (msC z0 nilS) 0 (msC mb (.slice yb kb cb'))).toArray).heap.size := by rw [setRow_size]; exact hz4
  replace hz5 := Lib.hid hz5
  clear hQa hQb hQa1 hQb1 hOa hOb hOa1 hOb1 hB3 hB4 hz3 hz4
  go_simp
  go_upto_region 4 with (first | (refine wpList_store_part rfl 42 _ _ rfl qa 0 (msC ma (.slice ya ka ca)) rfl rfl 42 (msC z0 nilS) hQaH.out (size_msg hda) (less_msg z0d hda) (ms_one rfl) ?_) | (refine wpList_store_part rfl 42 _ _ rfl qb 0 (msC mb (.slice yb kb cb')) rfl rfl 42 (msC z0 nilS) hQbH.out (size_msg hdb) (less_msg z0d hdb) (ms_one rfl) ?_))
  try simp only [Act.put]
  replace hz5 := hz5.out
  generalize (w3.setRow qa (putL (msC z0 nilS) 0 (msC ma (.slice ya ka ca))).toArray).setRow qb (putL (msC z0 nilS) 0 (msC mb (.slice yb kb cb'))).toArray = w5 at hQa2 hQb2 hOa2 hOb2 hB5 hz5 ⊢
  clear hQaH hQbH
  have hldA := Lib.hid (fun j v (hv : (msC ma (.slice ya ka ca))[j]? = some v) => (show w5.cell? ⟨qa, 0 + j, none⟩ = some v by rw [Nat.zero_add]; exact hQa2.out.get hv))
  have hE1 := Lib.hid (hEa.out w5 ya ca hOa2.out.marks)
  go_wp2_with (refine wpList_load_part rfl 42 _ rfl qa 0 rfl (msC ma (.slice ya ka ca)) hldA.out _ Try.underlying42 rfl (size_msg hda) ?_)
  refine hE1.out.mono ?_
  rintro e w6 ⟨rfl, hb6⟩
  have hQa6 := Lib.hid (hQa2.out.on hb6)
  have hQb6 := Lib.hid (hQb2.out.on hb6)
  have hOa6 := Lib.hid (hOa2.out.below hb6)
  have hOb6 := Lib.hid (hOb2.out.below hb6)
  have hB6 := Lib.hid (hB5.out.trans (hb6.mono hz5))
  have hz6 := Nat.le_trans hz5 hb6.size
  clear hldA hE1 hQa2 hQb2 hOa2 hOb2 hB5 hb6 hz5 hEa
  have hldB := Lib.hid (fun j v (hv : (msC mb (.slice yb kb cb'))[j]? = some v) => (show w6.cell? ⟨qb, 0 + j, none⟩ = some v by rw [Nat.zero_add]; exact hQb6.out.get hv))
  have hE2 := Lib.hid (hEb.out w6 yb cb' hOb6.out.marks)
  go_wp2_with (refine wpList_load_part rfl 42 _ rfl qb 0 rfl (msC mb (.slice yb kb cb')) hldB.out _ Try.underlying42 rfl (size_msg hdb) ?_)
  refine hE2.out.mono ?_
  rintro e w7 ⟨rfl, hb7⟩
  have hQa7 := Lib.hid (hQa6.out.on hb7)
  have hQb7 := Lib.hid (hQb6.out.on hb7)
  have hOa7 := Lib.hid (hOa6.out.below hb7)
  have hOb7 := Lib.hid (hOb6.out.below hb7)
  have hB7 := Lib.hid (hB6.out.trans (hb7.mono hz6))
  have hz7 := Nat.le_trans hz6 hb7.size
  clear hldB hE2 hQa6 hQb6 hOa6 hOb6 hB6 hb7 hz6 hEb
  have hD := Lib.hid (hDa.out w7)
  go_wp2_with fail
  refine hD.out.mono ?_
  rintro e w8 ⟨xm, Nm, cm, rfl, hNm, hb8⟩
  have hB8 := hB7.out.trans (hb8.mono hz7)
  have hz8 := Nat.le_trans hz7 hb8.size
  have hQa8 := hQa7.out.on hb8
  have hQb8 := hQb7.out.on hb8
  have hOa8 := hOa7.out.below hb8
  have hOb8 := hOb7.out.below hb8
  have hNo8 := (OwnM.ofNew hNm).less (Nat.zero_le _)
  obtain ⟨q, hq⟩ : ∃ q, w8.heap.size = q := ⟨_, rfl⟩
  have hqa : qa ≠ q := by have := hQa8.inside; omega
  have hqb : qb ≠ q := by have := hQb8.inside; omega
  have hq0 : AtL (w8.alloc (.cells (msC z0 nilS).toArray 42)) q 42 (msC z0 nilS) := by rw [← hq]; exact AtL.new w8 _ _
  have hb9 : Below w8.heap.size w8 (w8.alloc (.cells (msC z0 nilS).toArray 42)) := (Below.refl _ _).alloc (Nat.le_refl _) _
  have hM9 := Lib.hid (atL_eq (hq0.row (putL (msC z0 nilS) 0 (msC ma (.slice xm Nm cm)))) (put_msg z0d hda))
  have hQa9 := Lib.hid ((hQa8.on hb9).rowFar (b := q) hqa (putL (msC z0 nilS) 0 (msC ma (.slice xm Nm cm))).toArray)
  have hQb9 := Lib.hid ((hQb8.on hb9).rowFar (b := q) hqb (putL (msC z0 nilS) 0 (msC ma (.slice xm Nm cm))).toArray)
  have hOa9 := Lib.hid ((hOa8.below hb9).rowMsg hq0 (putL (msC z0 nilS) 0 (msC ma (.slice xm Nm cm))).toArray)
  have hOb9 := Lib.hid ((hOb8.below hb9).rowMsg hq0 (putL (msC z0 nilS) 0 (msC ma (.slice xm Nm cm))).toArray)
  have hNo9 := Lib.hid ((hNo8.below hb9).rowMsg hq0 (putL (msC z0 nilS) 0 (msC ma (.slice xm Nm cm))).toArray)
  have hnq : n ≤ q := by omega
  have hB9 := Lib.hid (below_row (hB8.trans (hb9.mono hz8)) hnq (putL (msC z0 nilS) 0 (msC ma (.slice xm Nm cm))).toArray)
  have hz9 : n ≤ ((w8.alloc (.cells (msC z0 nilS).toArray 42)).setRow q (putL (msC z0 nilS) 0 (msC ma (.slice xm Nm cm))).toArray).heap.size := by rw [setRow_size, World.size_alloc]; omega
  replace hz9 := Lib.hid hz9
  rw [← hq] at hq0
  replace hq0 := Lib.hid hq0
  replace hq := Lib.hid hq
  clear hD hDa hNm hb8 hb9 hQa7 hQb7 hOa7 hOb7 hB7 hz7 hB8 hz8 hQa8 hQb8 hOa8 hOb8 hNo8 hqa hqb
  go_upto_region 7 with (rw [z0_lit]; refine wpList_store_part rfl 42 _ _ rfl w8.heap.size 0 (msC ma (.slice xm Nm cm)) rfl rfl 42 (msC z0 nilS) hq0.out (size_msg hda) (less_msg z0d hda) (ms_one rfl) ?_)
  try simp only [Act.put]
  rw [hq.out]
  replace hz9 := hz9.out
  clear hq0 hq
  generalize (w8.alloc (.cells (msC z0 nilS).toArray 42)).setRow q (putL (msC z0 nilS) 0 (msC ma (.slice xm Nm cm))).toArray = w9 at hM9 hQa9 hQb9 hOa9 hOb9 hNo9 hB9 hz9 ⊢
  have hS := Lib.hid (same_yes (a := ma) rfl (.slice xm Nm cm) (.slice ya ka ca) hoka w9 hNo9.out.marks hOa9.out.marks)
  clear hNo9
  refine wp_region_list ?_
  (refine BigFrame.wpList_want rfl ?_; intro K hK; replace hK := Lib.hid hK; go_wp2_with fail; refine hK.out _ _ ?_; clear hK K) -- 40
  (refine BigFrame.wpList_want rfl ?_; intro K hK; replace hK := Lib.hid hK; go_wp2_with fail; refine hK.out _ _ ?_; clear hK K) -- 41
  (refine BigFrame.wpList_want rfl ?_; intro K hK; replace hK := Lib.hid hK; go_wp2_with fail; refine hK.out _ _ ?_; clear hK K) -- 42
  (refine BigFrame.wpList_want rfl ?_; intro K hK; replace hK := Lib.hid hK; go_wp2_with fail; refine hK.out _ _ ?_; clear hK K) -- 43
  (refine BigFrame.wpList_want rfl ?_; intro K hK; replace hK := Lib.hid hK; go_wp2_with fail; refine hK.out _ _ ?_; clear hK K) -- 44
  (refine BigFrame.wpList_want rfl ?_; intro K hK; replace hK := Lib.hid hK; go_wp2_with fail; refine hK.out _ _ ?_; clear hK K) -- 45
  (refine BigFrame.wpList_want rfl ?_; intro K hK; replace hK := Lib.hid hK; go_wp2_with fail; refine hK.out _ _ ?_; clear hK K) -- 46
  (refine BigFrame.wpList_want rfl ?_; intro K hK; replace hK := Lib.hid hK; go_wp2_with fail; refine hK.out _ _ ?_; clear hK K) -- 47
  (refine BigFrame.wpList_want rfl ?_; intro K hK; replace hK := Lib.hid hK; go_wp2_with fail; refine hK.out _ _ ?_; clear hK K) -- 48
  (refine BigFrame.wpList_want rfl ?_; intro K hK; replace hK := Lib.hid hK; go_wp2_with fail; refine hK.out _ _ ?_; clear hK K) -- 49
  (refine BigFrame.wpList_want rfl ?_; intro K hK; replace hK := Lib.hid hK; go_wp2_with fail; refine hK.out _ _ ?_; clear hK K) -- 50
  refine wpList_load_part_w rfl 42 _ rfl q 0 rfl (msC ma (.slice xm Nm cm)) (fun j v hv => by rw [Nat.zero_add]; exact hM9.out.get hv) _ Try.underlying42 rfl (size_msg (by first | exact hda | exact hdb)) ?_
  go_simp
  refine wpList_load_part_w rfl 42 _ rfl qa 0 rfl (msC ma (.slice ya ka ca)) (fun j v hv => by rw [Nat.zero_add]; exact hQa9.out.get hv) _ Try.underlying42 rfl (size_msg (by first | exact hda | exact hdb)) ?_
  go_simp
  (refine BigFrame.wpList_want rfl ?_; intro K hK; replace hK := Lib.hid hK; go_wp2_with fail)
  refine hS.out.mono ?_
  rintro e w10 ⟨rfl, hb10⟩
  have hM10 := Lib.hid (hM9.out.on hb10)
  have hQa10 := Lib.hid (hQa9.out.on hb10)
  have hQb10 := Lib.hid (hQb9.out.on hb10)
  have hOa10 := hOa9.out.below hb10
  have hOb10 := hOb9.out.below hb10
  have hB10 := Lib.hid (hB9.out.trans (hb10.mono hz9))
  have hz10 := Nat.le_trans hz9 hb10.size
  have hSf := same_full ma mb (.slice ya ka ca) (.slice yb kb cb') hoka hokb w10 hOa10.marks hOb10.marks
  rw [hsame.out] at hSf
  replace hSf := Lib.hid hSf
  clear hM9 hQa9 hQb9 hOa9 hOb9 hOa10 hOb10 hB9 hz9 hb10 hS
  go_wp2_with fail
  refine hK.out _ _ ?_
  clear hK K
  (refine BigFrame.wpList_want rfl ?_; intro K hK; replace hK := Lib.hid hK; go_wp2_with fail; refine hK.out _ _ ?_; clear hK K) -- 54
  (refine BigFrame.wpList_want rfl ?_; intro K hK; replace hK := Lib.hid hK; go_wp2_with fail; refine hK.out _ _ ?_; clear hK K) -- 55
  (refine BigFrame.wpList_want rfl ?_; intro K hK; replace hK := Lib.hid hK; go_wp2_with fail; refine hK.out _ _ ?_; clear hK K) -- 56
  (refine BigFrame.wpList_want rfl ?_; intro K hK; replace hK := Lib.hid hK; go_wp2_with fail; refine hK.out _ _ ?_; clear hK K) -- 57
  (refine BigFrame.wpList_want rfl ?_; intro K hK; replace hK := Lib.hid hK; go_wp2_with fail; refine hK.out _ _ ?_; clear hK K) -- 58
  (refine BigFrame.wpList_want rfl ?_; intro K hK; replace hK := Lib.hid hK; go_wp2_with fail; refine hK.out _ _ ?_; clear hK K)
  refine wpList_load_part_w rfl 42 _ rfl qa 0 rfl (msC ma (.slice ya ka ca)) (fun j v hv => by rw [Nat.zero_add]; exact hQa10.out.get hv) _ Try.underlying42 rfl (size_msg (by first | exact hda | exact hdb)) ?_
  go_simp
  refine wpList_load_part_w rfl 42 _ rfl qb 0 rfl (msC mb (.slice yb kb cb')) (fun j v hv => by rw [Nat.zero_add]; exact hQb10.out.get hv) _ Try.underlying42 rfl (size_msg (by first | exact hda | exact hdb)) ?_
  go_simp
  (refine BigFrame.wpList_want rfl ?_; intro K hK; replace hK := Lib.hid hK; go_wp2_with fail)
  refine hSf.out.mono ?_
  rintro e w11 ⟨rfl, hb11⟩
  have hM11 := Lib.hid (hM10.out.on hb11)
  have hB11 := Lib.hid (hB10.out.trans (hb11.mono hz10))
  have hz11 := Nat.le_trans hz10 hb11.size
  have hcs : (!(Sa == Sb) == same) = false := by rw [hst.out]; cases same <;> rfl
  clear hM10 hQa10 hQb10 hB10 hz10 hb11 hSf
  go_wp2_with fail
  refine hK.out _ _ ?_
  clear hK K
  (refine BigFrame.wpList_want rfl ?_; intro K hK; replace hK := Lib.hid hK; go_wp2_with fail; refine hK.out _ _ ?_; clear hK K)
  (refine BigFrame.wpList_want rfl ?_; intro K hK; replace hK := Lib.hid hK; go_wp2_with fail; refine hK.out _ _ ?_; clear hK K)
  obtain ⟨SL, hSL⟩ : ∃ SL, s.length = SL := ⟨_, rfl⟩
  rw [hSL] at hs
  obtain ⟨mn, hmn⟩ : ∃ mn, min SL 1000 = mn := ⟨_, rfl⟩
  have hmni : min (SL : Int) 1000 = (mn : Int) := by omega
  have hmle : (mn : Int) ≤ (SL : Int) := by omega
  obtain ⟨s', hs'⟩ : ∃ l, s.take mn = l := ⟨_, rfl⟩
  have hs1 : s'.length ≤ 1000 := by rw [← hs', List.length_take]; omega
  replace hs' := Lib.hid hs'
  have hda' : ma.dig.length = 32 := hda
  obtain ⟨M0, v0, hd0, hM0⟩ : ∃ M v, M.dig.length = 32 ∧ AtL w11 q 42 (msC M v) := ⟨_, _, hda, hM11.out⟩
  have hM12 : Hid (∃ M v, M.dig.length = 32 ∧ AtL w11 q 42 (msC M v)) := Lib.hid ⟨_, _, hda, hM11.out⟩
  clear hM11 hM0 hd0 hmn hs hoka hokb hda hdb hda' hst hsame
  go_wp2_with fail
  clear hcs
  simp only [hs'.out]
  have ix0 : ∀ w, (Instr.index 59 (.agg #[.string (str s'), .string (str (2 :: 0 :: 34 :: s'))]) (.int .i64 0)).run Try.prog w = .ok (.string (str s')) w := fun _ => by kernel_rfl
  have ix1 : ∀ w, (Instr.index 59 (.agg #[.string (str s'), .string (str (2 :: 0 :: 34 :: s'))]) (.int .i64 1)).run Try.prog w = .ok (.string (str (2 :: 0 :: 34 :: s'))) w := fun _ => by kernel_rfl
  go_loopw [74] (fun c wr => ∃ i : Nat, c = .int .i64 (i : Int) ∧ i ≤ 2 ∧ Hid (Below n w wr) ∧ Hid (n ≤ wr.heap.size) ∧ Hid (∃ M v, M.dig.length = 32 ∧ AtL wr q 42 (msC M v)))
   (fun c _ => 2 - (RowKit.intOf c).toNat)
  case atStart => exact ⟨0, rfl, by omega, hB11, Lib.hid hz11, hM12⟩
  case round =>
   obtain ⟨wi, hwi⟩ : ∃ wi, wi = wr := ⟨_, rfl⟩
   subst hwi
   obtain ⟨i, rfl, hi, hBi, hzi, hMi⟩ := hrel
   obtain ⟨M0, v0, hd0, hq0⟩ := hMi.out
   replace hzi := hzi.out
   clear hMi hM12 hB11 hz11
   by_cases h2 : i = 2
   · subst h2
     clear hi hq0
     go_wp2_with fail
     go_ret
     exact ⟨rfl, hBi.out⟩
   · have hi01 : i = 0 ∨ i = 1 := by omega
     clear hi h2
     rcases hi01 with rfl | rfl
     · have hD := Lib.hid (Decode_any (s') (by first | omega | (simp only [List.length_cons]; omega)) wi)
       have hok := dec_ok (s')
       have herr := fun h => dec_err (s := s') h
       have hfine := fun h => dec_fine (s := s') h
       obtain ⟨M, hM⟩ : ∃ M, (decS (s')).1 = M := ⟨_, rfl⟩
       obtain ⟨E, hE⟩ : ∃ E, (decS (s')).2 = E := ⟨_, rfl⟩
       simp only [hM, hE] at hD hok herr hfine
       clear hM hE
       have hdM := hok.1.dig
       replace hq0 := Lib.hid hq0
       replace herr := Lib.hid herr
       replace hfine := Lib.hid hfine
       go_wp2_with fail
       refine hD.out.mono ?_
       rintro e w13 ⟨xn, Nn, cn, rfl, hNn, hb13⟩
       have hq13 := hq0.out.on hb13
       have hB13 := hBi.out.trans (hb13.mono hzi)
       have hz13 := Nat.le_trans hzi hb13.size
       have hN13 := (OwnM.ofNew hNn).less (Nat.zero_le _)
       have hN14 := Lib.hid (hN13.rowMsg hq13 (putL (msC M0 v0) 0 (msC M (.slice xn Nn cn))).toArray)
       have hq14 := Lib.hid (atL_eq (hq13.row (putL (msC M0 v0) 0 (msC M (.slice xn Nn cn)))) (put_msg hd0 hdM))
       have hB14 := Lib.hid (below_row hB13 hnq (putL (msC M0 v0) 0 (msC M (.slice xn Nn cn))).toArray)
       have hz14 : Hid (n ≤ (w13.setRow q (putL (msC M0 v0) 0 (msC M (.slice xn Nn cn))).toArray).heap.size) := Lib.hid (by rw [setRow_size]; exact hz13)
       replace hq13 := Lib.hid hq13
       clear hD hq0 hNn hb13 hN13 hB13 hBi hzi
       go_upto_region 14 with (refine wpList_store_part rfl 42 _ _ rfl q 0 (msC M (.slice xn Nn cn)) rfl rfl 42 (msC M0 v0) hq13.out (size_msg hdM) (less_msg hd0 hdM) (ms_one rfl) ?_)
       try simp only [Act.put]
       replace hz14 := hz14.out
       clear hq13 hz13
       generalize w13.setRow q (putL (msC M0 v0) 0 (msC M (.slice xn Nn cn))).toArray = w14 at hN14 hq14 hB14 hz14 ⊢
       have hld := Lib.hid (fun j v (hv : (msC M (.slice xn Nn cn))[j]? = some v) => (show w14.cell? ⟨q, 0 + j, none⟩ = some v by rw [Nat.zero_add]; exact hq14.out.get hv))
       have hlM := marks_len hN14.out.marks
       have hfin : Hid (∃ M v, M.dig.length = 32 ∧ AtL w14 q 42 (msC M v)) := Lib.hid ⟨_, _, hdM, hq14.out⟩
       by_cases hE0 : E = 0
       · subst hE0
         obtain ⟨hmy, henc⟩ := hfine.out rfl
         have e1 : encE M = 0 := by rw [encE, if_pos hmy]
         have hC := Encode_any M xn Nn cn hok.1 hok.2 w14 hN14.out.marks
         rw [henc, e1] at hC
         replace hC := Lib.hid hC
         clear herr hfine hmy henc e1 hok hN14
         go_wp2_with (refine wpList_load_part rfl 42 _ rfl q 0 rfl (msC M (.slice xn Nn cn)) hld.out _ Try.underlying42 rfl (size_msg hdM) ?_)
         refine hC.out.mono ?_
         rintro e w15 ⟨rfl, hb15⟩
         have hB15 := Lib.hid (hB14.out.trans (hb15.mono hz14))
         have hz15 := Lib.hid (Nat.le_trans hz14 hb15.size)
         have hq15 : Hid (∃ M v, M.dig.length = 32 ∧ AtL w15 q 42 (msC M v)) := Lib.hid ⟨_, _, hdM, hq14.out.on hb15⟩
         clear hC hld hfin hq14 hB14 hz14 hb15
         go_wp2_with fail
         go_roundw
         case rel => exact ⟨1, by go_num, by omega, hB15, hz15, hq15⟩
         case measure => simp [RowKit.intOf]
       · obtain rfl := herr.out hE0
         have hC := Lib.hid (same_yes (a := z0) rfl (.slice xn Nn cn) nilS z_ok w14 hN14.out.marks (RowB.nil _ _ _))
         have hE1 : (E == 0) = false := by rw [beq_eq_false_iff_ne]; exact hE0
         clear herr hfine hok hN14
         go_wp2_with (first | (refine wpList_load_part rfl 42 _ rfl q 0 rfl (msC z0 (.slice xn Nn cn)) hld.out _ Try.underlying42 rfl (size_msg hdM) ?_) | (refine wpList_build_w rfl 42 _ rfl (msC z0 nilS).toArray (by kernel_rfl) ?_))
         refine hC.out.mono ?_
         rintro e w15 ⟨rfl, hb15⟩
         have hB15 := Lib.hid (hB14.out.trans (hb15.mono hz14))
         have hz15 := Lib.hid (Nat.le_trans hz14 hb15.size)
         have hq15 : Hid (∃ M v, M.dig.length = 32 ∧ AtL w15 q 42 (msC M v)) := Lib.hid ⟨_, _, hdM, hq14.out.on hb15⟩
         clear hC hld hfin hq14 hB14 hz14 hb15
         go_wp2_with fail
         go_roundw
         case rel => exact ⟨1, by go_num, by omega, hB15, hz15, hq15⟩
         case measure => simp [RowKit.intOf]
     · have hD := Lib.hid (Decode_any (2 :: 0 :: 34 :: s') (by first | omega | (simp only [List.length_cons]; omega)) wi)
       have hok := dec_ok (2 :: 0 :: 34 :: s')
       have herr := fun h => dec_err (s := 2 :: 0 :: 34 :: s') h
       have hfine := fun h => dec_fine (s := 2 :: 0 :: 34 :: s') h
       obtain ⟨M, hM⟩ : ∃ M, (decS (2 :: 0 :: 34 :: s')).1 = M := ⟨_, rfl⟩
       obtain ⟨E, hE⟩ : ∃ E, (decS (2 :: 0 :: 34 :: s')).2 = E := ⟨_, rfl⟩
       simp only [hM, hE] at hD hok herr hfine
       clear hM hE
       have hdM := hok.1.dig
       replace hq0 := Lib.hid hq0
       replace herr := Lib.hid herr
       replace hfine := Lib.hid hfine
       go_wp2_with fail
       refine hD.out.mono ?_
       rintro e w13 ⟨xn, Nn, cn, rfl, hNn, hb13⟩
       have hq13 := hq0.out.on hb13
       have hB13 := hBi.out.trans (hb13.mono hzi)
       have hz13 := Nat.le_trans hzi hb13.size
       have hN13 := (OwnM.ofNew hNn).less (Nat.zero_le _)
       have hN14 := Lib.hid (hN13.rowMsg hq13 (putL (msC M0 v0) 0 (msC M (.slice xn Nn cn))).toArray)
       have hq14 := Lib.hid (atL_eq (hq13.row (putL (msC M0 v0) 0 (msC M (.slice xn Nn cn)))) (put_msg hd0 hdM))
       have hB14 := Lib.hid (below_row hB13 hnq (putL (msC M0 v0) 0 (msC M (.slice xn Nn cn))).toArray)
       have hz14 : Hid (n ≤ (w13.setRow q (putL (msC M0 v0) 0 (msC M (.slice xn Nn cn))).toArray).heap.size) := Lib.hid (by rw [setRow_size]; exact hz13)
       replace hq13 := Lib.hid hq13
       clear hD hq0 hNn hb13 hN13 hB13 hBi hzi
       go_upto_region 14 with (refine wpList_store_part rfl 42 _ _ rfl q 0 (msC M (.slice xn Nn cn)) rfl rfl 42 (msC M0 v0) hq13.out (size_msg hdM) (less_msg hd0 hdM) (ms_one rfl) ?_)
       try simp only [Act.put]
       replace hz14 := hz14.out
       clear hq13 hz13
       generalize w13.setRow q (putL (msC M0 v0) 0 (msC M (.slice xn Nn cn))).toArray = w14 at hN14 hq14 hB14 hz14 ⊢
       have hld := Lib.hid (fun j v (hv : (msC M (.slice xn Nn cn))[j]? = some v) => (show w14.cell? ⟨q, 0 + j, none⟩ = some v by rw [Nat.zero_add]; exact hq14.out.get hv))
       have hlM := marks_len hN14.out.marks
       have hfin : Hid (∃ M v, M.dig.length = 32 ∧ AtL w14 q 42 (msC M v)) := Lib.hid ⟨_, _, hdM, hq14.out⟩
       by_cases hE0 : E = 0
       · subst hE0
         obtain ⟨hmy, henc⟩ := hfine.out rfl
         have e1 : encE M = 0 := by rw [encE, if_pos hmy]
         have hC := Encode_any M xn Nn cn hok.1 hok.2 w14 hN14.out.marks
         rw [henc, e1] at hC
         replace hC := Lib.hid hC
         clear herr hfine hmy henc e1 hok hN14
         go_wp2_with (refine wpList_load_part rfl 42 _ rfl q 0 rfl (msC M (.slice xn Nn cn)) hld.out _ Try.underlying42 rfl (size_msg hdM) ?_)
         refine hC.out.mono ?_
         rintro e w15 ⟨rfl, hb15⟩
         have hB15 := Lib.hid (hB14.out.trans (hb15.mono hz14))
         have hz15 := Lib.hid (Nat.le_trans hz14 hb15.size)
         have hq15 : Hid (∃ M v, M.dig.length = 32 ∧ AtL w15 q 42 (msC M v)) := Lib.hid ⟨_, _, hdM, hq14.out.on hb15⟩
         clear hC hld hfin hq14 hB14 hz14 hb15
         go_wp2_with fail
         go_roundw
         case rel => exact ⟨2, by go_num, by omega, hB15, hz15, hq15⟩
         case measure => simp [RowKit.intOf]
       · obtain rfl := herr.out hE0
         have hC := Lib.hid (same_yes (a := z0) rfl (.slice xn Nn cn) nilS z_ok w14 hN14.out.marks (RowB.nil _ _ _))
         have hE1 : (E == 0) = false := by rw [beq_eq_false_iff_ne]; exact hE0
         clear herr hfine hok hN14
         go_wp2_with (first | (refine wpList_load_part rfl 42 _ rfl q 0 rfl (msC z0 (.slice xn Nn cn)) hld.out _ Try.underlying42 rfl (size_msg hdM) ?_) | (refine wpList_build_w rfl 42 _ rfl (msC z0 nilS).toArray (by kernel_rfl) ?_))
         refine hC.out.mono ?_
         rintro e w15 ⟨rfl, hb15⟩
         have hB15 := Lib.hid (hB14.out.trans (hb15.mono hz14))
         have hz15 := Lib.hid (Nat.le_trans hz14 hb15.size)
         have hq15 : Hid (∃ M v, M.dig.length = 32 ∧ AtL w15 q 42 (msC M v)) := Lib.hid ⟨_, _, hdM, hq14.out.on hb15⟩
         clear hC hld hfin hq14 hB14 hz14 hb15
         go_wp2_with fail
         go_roundw
         case rel => exact ⟨2, by go_num, by omega, hB15, hz15, hq15⟩
         case measure => simp [RowKit.intOf]
end Go.Proofs.Ytpefdmkfmcjfnaa.Df

import Derived.Test.YtpefdmkfmcjfnaaPkMsArgs

namespace Go.Proofs.Ytpefdmkfmcjfnaa.Df
open Go.RowKit Go.Sort Go.Proofs.Ytpefdmkfmcjfnaa.Mem Go.Proofs.Ytpefdmkfmcjfnaa.Route Go.Proofs.Ytpefdmkfmcjfnaa.Oct Go.Proofs.Ytpefdmkfmcjfnaa.Ms Go.Proofs.Ytpefdmkfmcjfnaa.Part Go.Proofs.Ytpefdmkfmcjfnaa.Mp Go.Proofs.Ytpefdmkfmcjfnaa.Feas
set_option linter.unusedVariables false
attribute [local go_sem] str_append str_from str_to
theorem field_marks {m : Ms} {v : Value} (h : m.dig.length = 32) (W : World) : (Instr.field 42 (.agg (msC m v).toArray) 7).run Try.prog W = .ok v W := by
 have ha : (asAgg (.agg (msC m v).toArray)).run Try.prog W = .ok (msC m v).toArray W := rfl
 have hg2 : (msC m v)[47]? = some v := ms_marks h
 simp [Instr.field, go_sem, ha, Result.andThen, hg2]
theorem msg_len (d : Dr) (hd : d.ok) (x : Option Addr) (L cap : Nat) (w : World) (hb : BytesAt w.heap.size w (.slice x L cap) d.bs) :
 Calls Try.prog 10 #[.agg #[.int .u8 (d.kd : Int), .int .u16 (d.n0 : Int), .int .u16 (d.n1 : Int), .int .u16 (d.n2 : Int), .int .u16 (d.n3 : Int), .int .u16 (d.n4 : Int), .int .u16 (d.n5 : Int), .int .u16 (d.n6 : Int), .int .u16 (d.n7 : Int), .int .u64 (d.b0 : Int), .int .u64 (d.b1 : Int), .slice x L cap]] w fun e w' => ∃ y c, e = .returned (.agg (msC (draftM d) (.slice y (draftM d).marks.length c)).toArray) ∧ OwnM w.heap.size w' (.slice y (draftM d).marks.length c) (draftM d).marks ∧ Below w.heap.size w w' :=
 (msg_lit d hd x L cap w hb).mono fun e w' ⟨y, N, c, h1, h2, h3⟩ => by
  have h4 := marks_len h2.marks
  subst h4
  exact ⟨y, c, h1, h2, h3⟩
theorem marks_few {m : Ms} (hm : m.ok) (h : mayB m = true) : m.marks.length ≤ 8 := by
 by_cases h3 : m.kind = 3
 · obtain ⟨h1, -, h2⟩ := may_parts h
   unfold kindB at h2
   rw [if_neg (by omega), if_neg (by omega), if_neg (by omega), if_neg (by omega)] at h2
   exact up_len h2
 · rw [may_marks h h3]
   exact Nat.zero_le _
theorem kind_len {a b : Dr} (h : b.kd = a.kd) : (draftM b).kind = (draftM a).kind := by rw [draft_kind, draft_kind, kindD, kindD, h]
set_option maxRecDepth 100000 in
set_option maxHeartbeats 16000000 in
theorem long_walk (a b0 : Dr) (ha : a.ok) (hb0 : b0.ok) (x : Option Addr) (L cap : Nat) (y : Option Addr) (K cb : Nat) (w : World) (hba : BytesAt w.heap.size w (.slice x L cap) a.bs) (hbb : BytesAt w.heap.size w (.slice y K cb) b0.bs) :
 Calls Try.prog 7 #[.agg (drC a (.slice x L cap)).toArray, .agg (drC b0 (.slice y K cb)).toArray] w fun e w' => e = .returned (.bool true) ∧ Below w.heap.size w w' := by
 have hA : At ((w.alloc (.cells (drC a (.slice x L cap)).toArray 28)).alloc (.cells (drC b0 (.slice y K cb)).toArray 28)) w.heap.size 28 (drC a (.slice x L cap)).toArray := (At.new w _ _).alloc _
 have hC : At ((w.alloc (.cells (drC a (.slice x L cap)).toArray 28)).alloc (.cells (drC b0 (.slice y K cb)).toArray 28)) (w.heap.size + 1) 28 (drC b0 (.slice y K cb)).toArray := by
  have := At.new (w.alloc (.cells (drC a (.slice x L cap)).toArray 28)) 28 (drC b0 (.slice y K cb)).toArray
  rwa [World.size_alloc] at this
 have hB : Below w.heap.size w ((w.alloc (.cells (drC a (.slice x L cap)).toArray 28)).alloc (.cells (drC b0 (.slice y K cb)).toArray 28)) := ((Below.refl _ _).alloc (Nat.le_refl _) _).alloc (by simp) _
 obtain ⟨n, hn⟩ : ∃ n, w.heap.size = n := ⟨_, rfl⟩
 have hbW := hba.keep hB (Nat.le_refl _)
 have hcW := hbb.keep hB (Nat.le_refl _)
 rw [hn] at hA hC hB hbW hcW
 rw [show Below w.heap.size w = Below n w by rw [hn]]
 go_enter Try.func7, Try.ntmps7
 go_upto_region 1 with fail
 try simp only [hn]
 generalize (w.alloc (.cells (drC a (.slice x L cap)).toArray 28)).alloc (.cells (drC b0 (.slice y K cb)).toArray 28) = W at hA hC hB hbW hcW ⊢
 obtain ⟨p, hp⟩ : ∃ p, n + 1 = p := ⟨_, rfl⟩
 rw [hp] at hC
 try simp only [hp]
 have hnp : n < p := by omega
 have hpW : p < W.heap.size := hC.inside
 have hzB : n ≤ W.heap.size := by omega
 replace hn := Lib.hid hn
 clear hp hba hbb
 have h1 := Lib.hid (works_any W)
 replace hB := Lib.hid hB
 replace hA := Lib.hid hA
 replace hC := Lib.hid hC
 go_wp2_with fail
 refine h1.out.mono ?_
 rintro e w1 ⟨rfl, hb1⟩
 have hA1 := At.keep hA.out hb1 (by omega)
 have hC1 := At.keep hC.out hb1 hpW
 have hbW1 := RowB.keep hbW hb1 hzB
 have hcW1 := RowB.keep hcW hb1 hzB
 have hB1 := hB.out.trans (hb1.mono hzB)
 have hz1 := Nat.le_trans hzB hb1.size
 have hpw1 : p < w1.heap.size := hC1.inside
 have k0 : w1.cell? ⟨n, 0, none⟩ = some (.int .u8 (a.kd : Int)) := dr_cell hA1 0 rfl
 have k1 : w1.cell? ⟨p, 0, none⟩ = some (.int .u8 (b0.kd : Int)) := dr_cell hC1 0 rfl
 have f1 := hC1.free 0
 obtain ⟨b, hb⟩ : ∃ b : Dr, { b0 with kd := a.kd } = b := ⟨_, rfl⟩
 have hbk : b.kd = a.kd := by rw [← hb]
 have hbo : b.ok := by
  rw [← hb]
  exact ⟨ha.kd, hb0.n0, hb0.n1, hb0.n2, hb0.n3, hb0.n4, hb0.n5, hb0.n6, hb0.n7, hb0.b0, hb0.b1⟩
 have hA2 := Lib.hid (hA1.far (b := p) (by omega) 0 (.int .u8 (a.kd : Int)))
 have hC2 : Hid (At (w1.setCell ⟨p, 0, none⟩ (.int .u8 (a.kd : Int))) p 28 (drC b (.slice y K cb)).toArray) := Lib.hid (by
  have := hC1.put 0 (.int .u8 (a.kd : Int))
  rw [← hb]
  exact this)
 have hB2 := Lib.hid (below_set hB1 (show n ≤ p by omega) 0 (.int .u8 (a.kd : Int)))
 have hbW2 := Lib.hid (RowB.keep hbW1 (below_set (Below.refl n w1) (show n ≤ p by omega) 0 (.int .u8 (a.kd : Int))) (Nat.le_refl _))
 have hcW2 : Hid (BytesAt n (w1.setCell ⟨p, 0, none⟩ (.int .u8 (a.kd : Int))) (.slice y K cb) b.bs) := Lib.hid (by
  have := RowB.keep hcW1 (below_set (Below.refl n w1) (show n ≤ p by omega) 0 (.int .u8 (a.kd : Int))) (Nat.le_refl _)
  rw [← hb]
  exact this)
 clear hA hC hB hbW hcW h1 hb1 hA1 hC1 hbW1 hcW1 hB1 hb hb0
 go_upto_region 4 with fail
 have hsz2 : p < (w1.setCell ⟨p, 0, none⟩ (.int .u8 (a.kd : Int))).heap.size := hC2.out.inside
 generalize w1.setCell ⟨p, 0, none⟩ (.int .u8 (a.kd : Int)) = w2 at hA2 hC2 hB2 hbW2 hcW2 hsz2 ⊢
 clear k0 k1 f1 hpw1 hz1
 have hoka := draft_ok a
 have hokb := draft_ok b
 have hwa := draft_wide ha
 have hwb := draft_wide hbo
 have hma := draft_may ha
 have hmb := draft_may hbo
 have hlong := enc_long hoka hokb hma hmb (kind_len hbk).symm
 have hMa := Lib.hid (fun W hW => msg_len a ha x L cap W hW)
 have hMb := Lib.hid (fun W hW => msg_len b hbo y K cb W hW)
 obtain ⟨ma, hmae⟩ : ∃ m, draftM a = m := ⟨_, rfl⟩
 obtain ⟨mb, hmbe⟩ : ∃ m, draftM b = m := ⟨_, rfl⟩
 simp only [hmae] at hMa hoka hwa hma hlong
 simp only [hmbe] at hMb hokb hwb hmb hlong
 have hxa := enc_max hoka hma hwa
 have hxb := enc_max hokb hmb hwb
 have e1 : encE ma = 0 := by rw [encE, if_pos hma]
 have e2 : encE mb = 0 := by rw [encE, if_pos hmb]
 have hEa := Lib.hid (fun W yy c hM => Encode_any ma yy ma.marks.length c hoka hwa W hM)
 have hEb := Lib.hid (fun W yy c hM => Encode_any mb yy mb.marks.length c hokb hwb W hM)
 simp only [e1] at hEa
 simp only [e2] at hEb
 obtain ⟨Sa, hSa⟩ : ∃ S, encL ma = S := ⟨_, rfl⟩
 obtain ⟨Sb, hSb⟩ : ∃ S, encL mb = S := ⟨_, rfl⟩
 simp only [hSa] at hEa hlong hxa
 simp only [hSb] at hEb hlong hxb
 obtain ⟨la, hla⟩ : ∃ l, Sa.length = l := ⟨_, rfl⟩
 obtain ⟨lb, hlb⟩ : ∃ l, Sb.length = l := ⟨_, rfl⟩
 rw [hla] at hlong hxa
 rw [hlb] at hlong hxb
 have hua := marks_few hoka hma
 have hub := marks_few hokb hmb
 have hda := hoka.dig
 have hdb := hokb.dig
 obtain ⟨ka, hka⟩ : ∃ l, ma.marks.length = l := ⟨_, rfl⟩
 obtain ⟨kb, hkb⟩ : ∃ l, mb.marks.length = l := ⟨_, rfl⟩
 simp only [hka] at hMa hEa hua hlong
 simp only [hkb] at hMb hEb hub hlong
 clear hmae hmbe hSa hSb e1 e2 hma hmb hoka hokb hwa hwb hka hkb hbk
 have ca0 : w2.cell? ⟨n, 0, none⟩ = some (.int .u8 (a.kd : Int)) := dr_cell hA2.out 0 rfl
 have ca1 : w2.cell? ⟨n, 1, none⟩ = some (.int .u16 (a.n0 : Int)) := dr_cell hA2.out 1 rfl
 have ca2 : w2.cell? ⟨n, 2, none⟩ = some (.int .u16 (a.n1 : Int)) := dr_cell hA2.out 2 rfl
 have ca3 : w2.cell? ⟨n, 3, none⟩ = some (.int .u16 (a.n2 : Int)) := dr_cell hA2.out 3 rfl
 have ca4 : w2.cell? ⟨n, 4, none⟩ = some (.int .u16 (a.n3 : Int)) := dr_cell hA2.out 4 rfl
 have ca5 : w2.cell? ⟨n, 5, none⟩ = some (.int .u16 (a.n4 : Int)) := dr_cell hA2.out 5 rfl
 have ca6 : w2.cell? ⟨n, 6, none⟩ = some (.int .u16 (a.n5 : Int)) := dr_cell hA2.out 6 rfl
 have ca7 : w2.cell? ⟨n, 7, none⟩ = some (.int .u16 (a.n6 : Int)) := dr_cell hA2.out 7 rfl
 have ca8 : w2.cell? ⟨n, 8, none⟩ = some (.int .u16 (a.n7 : Int)) := dr_cell hA2.out 8 rfl
 have ca9 : w2.cell? ⟨n, 9, none⟩ = some (.int .u64 (a.b0 : Int)) := dr_cell hA2.out 9 rfl
 have ca10 : w2.cell? ⟨n, 10, none⟩ = some (.int .u64 (a.b1 : Int)) := dr_cell hA2.out 10 rfl
 have ca11 : w2.cell? ⟨n, 11, none⟩ = some (.slice x L cap) := dr_cell hA2.out 11 rfl
 have hMa1 := Lib.hid (hMa.out w2 (hbW2.out.more (by omega)))
 go_wp2_with fail
 refine hMa1.out.mono ?_
 rintro e w3 ⟨ya, ca, rfl, hKa, hb3⟩
 clear ca0 ca1 ca2 ca3 ca4 ca5 ca6 ca7 ca8 ca9 ca10 ca11 hMa1
 have hEa1 := Lib.hid (hEa.out w3 ya ca hKa.marks)
 go_wp2_with fail
 refine hEa1.out.mono ?_
 rintro e w4 ⟨rfl, hb4⟩
 have hb24 := hb3.trans (hb4.mono hb3.size)
 have hA4 := Lib.hid (At.keep hA2.out hb24 (by omega))
 have hC4 := Lib.hid (At.keep hC2.out hb24 hsz2)
 have hn2 : n ≤ w2.heap.size := by omega
 have hbW4 := Lib.hid (RowB.keep hbW2.out hb24 hn2)
 have hcW4 := Lib.hid (RowB.keep hcW2.out hb24 hn2)
 have hB4 := Lib.hid (hB2.out.trans (hb24.mono hn2))
 have hz4 : p < w4.heap.size := hC4.out.inside
 clear hA2 hC2 hbW2 hcW2 hB2 hb24 hb3 hb4 hKa hEa1 hsz2 hn2 hEa
 have cb0 : w4.cell? ⟨p, 0, none⟩ = some (.int .u8 (b.kd : Int)) := dr_cell hC4.out 0 rfl
 have cb1 : w4.cell? ⟨p, 1, none⟩ = some (.int .u16 (b.n0 : Int)) := dr_cell hC4.out 1 rfl
 have cb2 : w4.cell? ⟨p, 2, none⟩ = some (.int .u16 (b.n1 : Int)) := dr_cell hC4.out 2 rfl
 have cb3 : w4.cell? ⟨p, 3, none⟩ = some (.int .u16 (b.n2 : Int)) := dr_cell hC4.out 3 rfl
 have cb4 : w4.cell? ⟨p, 4, none⟩ = some (.int .u16 (b.n3 : Int)) := dr_cell hC4.out 4 rfl
 have cb5 : w4.cell? ⟨p, 5, none⟩ = some (.int .u16 (b.n4 : Int)) := dr_cell hC4.out 5 rfl
 have cb6 : w4.cell? ⟨p, 6, none⟩ = some (.int .u16 (b.n5 : Int)) := dr_cell hC4.out 6 rfl
 have cb7 : w4.cell? ⟨p, 7, none⟩ = some (.int .u16 (b.n6 : Int)) := dr_cell hC4.out 7 rfl
 have cb8 : w4.cell? ⟨p, 8, none⟩ = some (.int .u16 (b.n7 : Int)) := dr_cell hC4.out 8 rfl
 have cb9 : w4.cell? ⟨p, 9, none⟩ = some (.int .u64 (b.b0 : Int)) := dr_cell hC4.out 9 rfl
 have cb10 : w4.cell? ⟨p, 10, none⟩ = some (.int .u64 (b.b1 : Int)) := dr_cell hC4.out 10 rfl
 have cb11 : w4.cell? ⟨p, 11, none⟩ = some (.slice y K cb) := dr_cell hC4.out 11 rfl
 have hMb1 := Lib.hid (hMb.out w4 (RowB.more hcW4.out (by omega)))
 go_wp2_with fail
 refine hMb1.out.mono ?_
 rintro e w5 ⟨yb, cb', rfl, hKb, hb5⟩
 clear cb0 cb1 cb2 cb3 cb4 cb5 cb6 cb7 cb8 cb9 cb10 cb11 hMb1
 have hEb1 := Lib.hid (hEb.out w5 yb cb' hKb.marks)
 go_wp2_with fail
 refine hEb1.out.mono ?_
 rintro e w6 ⟨rfl, hb6⟩
 have hb46 := hb5.trans (hb6.mono hb5.size)
 have hA6 := Lib.hid (At.keep hA4.out hb46 (by omega))
 have hC6 := Lib.hid (At.keep hC4.out hb46 hz4)
 have hn4 : n ≤ w4.heap.size := by omega
 have hbW6 := Lib.hid (RowB.keep hbW4.out hb46 hn4)
 have hcW6 := Lib.hid (RowB.keep hcW4.out hb46 hn4)
 have hB6 := Lib.hid (hB4.out.trans (hb46.mono hn4))
 have hz6 : p < w6.heap.size := hC6.out.inside
 clear hA4 hC4 hbW4 hcW4 hB4 hb46 hb5 hb6 hKb hEb1 hz4 hn4 hEb
 go_upto_region 8 with fail
 have hwa : wrap64 (33 * (ka : Int)) = 33 * (ka : Int) := by unfold wrap64; omega
 have hwb : wrap64 (33 * (kb : Int)) = 33 * (kb : Int) := by unfold wrap64; omega
 have hsa : wrap64 ((la : Int) - 33 * (ka : Int)) = (la : Int) - 33 * (ka : Int) := by unfold wrap64; omega
 have hsb : wrap64 ((lb : Int) - 33 * (kb : Int)) = (lb : Int) - 33 * (kb : Int) := by unfold wrap64; omega
 refine Sched.wp_region_sched 17 (fun W W' => Below W.heap.size W W') (VK [.val (.string (str Sa)), .val (.int .i64 (la : Int)), .val (.agg #[.int .u8 (a.kd : Int), .int .u16 (a.n0 : Int), .int .u16 (a.n1 : Int), .int .u16 (a.n2 : Int), .int .u16 (a.n3 : Int), .int .u16 (a.n4 : Int), .int .u16 (a.n5 : Int), .int .u16 (a.n6 : Int), .int .u16 (a.n7 : Int), .int .u64 (a.b0 : Int), .int .u64 (a.b1 : Int), .slice x L cap]), .of (fun v W => ∃ (y : Option Addr) (c : Nat), v = .agg (msC ma (.slice y ka c)).toArray) (fun h _ => h), .of (fun v W => ∃ (y : Option Addr) (c : Nat), v = .slice y ka c) (fun h _ => h), .val (.int .i64 (ka : Int)), .val (.int .i64 (33 * (ka : Int))), .val (.int .i64 ((la : Int) - 33 * (ka : Int))), .val (.string (str Sb)), .val (.int .i64 (lb : Int)), .val (.agg #[.int .u8 (b.kd : Int), .int .u16 (b.n0 : Int), .int .u16 (b.n1 : Int), .int .u16 (b.n2 : Int), .int .u16 (b.n3 : Int), .int .u16 (b.n4 : Int), .int .u16 (b.n5 : Int), .int .u16 (b.n6 : Int), .int .u16 (b.n7 : Int), .int .u64 (b.b0 : Int), .int .u64 (b.b1 : Int), .slice y K cb]), .of (fun v W => ∃ (y : Option Addr) (c : Nat), v = .agg (msC mb (.slice y kb c)).toArray) (fun h _ => h), .of (fun v W => ∃ (y : Option Addr) (c : Nat), v = .slice y kb c) (fun h _ => h), .val (.int .i64 (kb : Int)), .val (.int .i64 (33 * (kb : Int))), .val (.int .i64 ((lb : Int) - 33 * (kb : Int))), .val (.bool true)]) (fun _ _ _ => True) (by kernel_rfl) (by kernel_rfl) (by kernel_rfl) (fun h1 h2 => belowTr h1 h2) (fun h1 h2 => VK.keep h1 h2) (Below.refl _ _).drew (fun _ => trivial) (Sched.StepsA.steps (by kernel_rfl) ?hS) ?hQ
 case hS =>
  simp only [List.take_succ_cons, List.take_zero]
  refine ⟨?_, ?_, ?_, ?_, ?_, ?_, ?_, ?_, ?_, ?_, ?_, ?_, ?_, ?_, ?_, ?_, ?_, trivial⟩
  · intro ys done W aa hE hn hF hD hZ hG hO
    replace hE : Below w6.heap.size w6 W := hE
    have o5 := hO 5 (by kernel_rfl)
    replace o5 : aa.tmps[5]? = some (.string (str Sa)) := o5
    go_wp2_with fail
    first | exact ⟨_, rfl, Below.refl _ _, VK.val rfl rfl, trivial⟩ | exact ⟨_, rfl, Below.refl _ _, VK.val rfl rfl⟩
  · intro ys done W aa hE hn hF hD hZ hG hO
    replace hE : Below w6.heap.size w6 W := hE
    have v0 := (hF 0 (by decide) (hD 0 (by kernel_rfl))).eq rfl
    have g0 := hG 0 32 rfl (Nat.le_of_ble_eq_true rfl)
    rw [v0] at g0
    go_wp2_with fail
    first | exact ⟨_, rfl, Below.refl _ _, VK.val rfl rfl, trivial⟩ | exact ⟨_, rfl, Below.refl _ _, VK.val rfl rfl⟩
  · intro ys done W aa hE hn hF hD hZ hG hO
    replace hE : Below w6.heap.size w6 W := hE
    have o2 := hO 2 (by kernel_rfl)
    replace o2 : aa.tmps[2]? = some (.pointer (some ⟨n, 0, none⟩)) := o2
    have p0 : W.cell? ⟨n, 0, none⟩ = some (.int .u8 (a.kd : Int)) := dr_cell (At.keep hA6.out hE (by omega)) 0 rfl
    have p1 : W.cell? ⟨n, 1, none⟩ = some (.int .u16 (a.n0 : Int)) := dr_cell (At.keep hA6.out hE (by omega)) 1 rfl
    have p2 : W.cell? ⟨n, 2, none⟩ = some (.int .u16 (a.n1 : Int)) := dr_cell (At.keep hA6.out hE (by omega)) 2 rfl
    have p3 : W.cell? ⟨n, 3, none⟩ = some (.int .u16 (a.n2 : Int)) := dr_cell (At.keep hA6.out hE (by omega)) 3 rfl
    have p4 : W.cell? ⟨n, 4, none⟩ = some (.int .u16 (a.n3 : Int)) := dr_cell (At.keep hA6.out hE (by omega)) 4 rfl
    have p5 : W.cell? ⟨n, 5, none⟩ = some (.int .u16 (a.n4 : Int)) := dr_cell (At.keep hA6.out hE (by omega)) 5 rfl
    have p6 : W.cell? ⟨n, 6, none⟩ = some (.int .u16 (a.n5 : Int)) := dr_cell (At.keep hA6.out hE (by omega)) 6 rfl
    have p7 : W.cell? ⟨n, 7, none⟩ = some (.int .u16 (a.n6 : Int)) := dr_cell (At.keep hA6.out hE (by omega)) 7 rfl
    have p8 : W.cell? ⟨n, 8, none⟩ = some (.int .u16 (a.n7 : Int)) := dr_cell (At.keep hA6.out hE (by omega)) 8 rfl
    have p9 : W.cell? ⟨n, 9, none⟩ = some (.int .u64 (a.b0 : Int)) := dr_cell (At.keep hA6.out hE (by omega)) 9 rfl
    have p10 : W.cell? ⟨n, 10, none⟩ = some (.int .u64 (a.b1 : Int)) := dr_cell (At.keep hA6.out hE (by omega)) 10 rfl
    have p11 : W.cell? ⟨n, 11, none⟩ = some (.slice x L cap) := dr_cell (At.keep hA6.out hE (by omega)) 11 rfl
    go_wp2_with fail
    first | exact ⟨_, rfl, Below.refl _ _, VK.val rfl rfl, trivial⟩ | exact ⟨_, rfl, Below.refl _ _, VK.val rfl rfl⟩
  · intro ys done W aa hE hn hF hD hZ hG hO
    replace hE : Below w6.heap.size w6 W := hE
    have v2 := (hF 2 (by decide) (hD 2 (by kernel_rfl))).eq rfl
    have g2 := hG 2 34 rfl (Nat.le_of_ble_eq_true rfl)
    rw [v2] at g2
    have hC := Lib.hid (hMa.out W ((RowB.keep hbW6.out hE (by omega)).more (Nat.le_trans (by omega) hE.size)))
    go_wp2_with fail
    refine hC.out.mono ?_
    rintro e W' ⟨yy, cc, rfl, -, hb'⟩
    replace hb' := Lib.hid hb'
    go_wp2_with fail
    first | exact ⟨_, rfl, hb'.out, VK.of rfl ⟨_, _, rfl⟩, trivial⟩ | exact ⟨_, rfl, hb'.out, VK.of rfl ⟨_, _, rfl⟩⟩
  · intro ys done W aa hE hn hF hD hZ hG hO
    replace hE : Below w6.heap.size w6 W := hE
    obtain ⟨y3, c3, v3⟩ := (hF 3 (by decide) (hD 3 (by kernel_rfl))).get rfl
    have g3 := hG 3 35 rfl (Nat.le_of_ble_eq_true rfl)
    rw [v3] at g3
    have hfm := fun W => field_marks (v := .slice y3 ka c3) hda W
    go_wp2_with fail
    first | exact ⟨_, rfl, Below.refl _ _, VK.of rfl ⟨_, _, rfl⟩, trivial⟩ | exact ⟨_, rfl, Below.refl _ _, VK.of rfl ⟨_, _, rfl⟩⟩
  · intro ys done W aa hE hn hF hD hZ hG hO
    replace hE : Below w6.heap.size w6 W := hE
    obtain ⟨y4, c4, v4⟩ := (hF 4 (by decide) (hD 4 (by kernel_rfl))).get rfl
    have g4 := hG 4 36 rfl (Nat.le_of_ble_eq_true rfl)
    rw [v4] at g4
    go_wp2_with fail
    first | exact ⟨_, rfl, Below.refl _ _, VK.val rfl rfl, trivial⟩ | exact ⟨_, rfl, Below.refl _ _, VK.val rfl rfl⟩
  · intro ys done W aa hE hn hF hD hZ hG hO
    replace hE : Below w6.heap.size w6 W := hE
    have v5 := (hF 5 (by decide) (hD 5 (by kernel_rfl))).eq rfl
    have g5 := hG 5 37 rfl (Nat.le_of_ble_eq_true rfl)
    rw [v5] at g5
    go_wp2_with fail
    first | exact ⟨_, rfl, Below.refl _ _, VK.val rfl rfl, trivial⟩ | exact ⟨_, rfl, Below.refl _ _, VK.val rfl rfl⟩
  · intro ys done W aa hE hn hF hD hZ hG hO
    replace hE : Below w6.heap.size w6 W := hE
    have v1 := (hF 1 (by decide) (hD 1 (by kernel_rfl))).eq rfl
    have g1 := hG 1 33 rfl (Nat.le_of_ble_eq_true rfl)
    rw [v1] at g1
    have v6 := (hF 6 (by decide) (hD 6 (by kernel_rfl))).eq rfl
    have g6 := hG 6 38 rfl (Nat.le_of_ble_eq_true rfl)
    rw [v6] at g6
    go_wp2_with fail
    first | exact ⟨_, rfl, Below.refl _ _, VK.val rfl rfl, trivial⟩ | exact ⟨_, rfl, Below.refl _ _, VK.val rfl rfl⟩
  · intro ys done W aa hE hn hF hD hZ hG hO
    replace hE : Below w6.heap.size w6 W := hE
    have o7 := hO 7 (by kernel_rfl)
    replace o7 : aa.tmps[7]? = some (.string (str Sb)) := o7
    go_wp2_with fail
    first | exact ⟨_, rfl, Below.refl _ _, VK.val rfl rfl, trivial⟩ | exact ⟨_, rfl, Below.refl _ _, VK.val rfl rfl⟩
  · intro ys done W aa hE hn hF hD hZ hG hO
    replace hE : Below w6.heap.size w6 W := hE
    have v8 := (hF 8 (by decide) (hD 8 (by kernel_rfl))).eq rfl
    have g8 := hG 8 40 rfl (Nat.le_of_ble_eq_true rfl)
    rw [v8] at g8
    go_wp2_with fail
    first | exact ⟨_, rfl, Below.refl _ _, VK.val rfl rfl, trivial⟩ | exact ⟨_, rfl, Below.refl _ _, VK.val rfl rfl⟩
  · intro ys done W aa hE hn hF hD hZ hG hO
    replace hE : Below w6.heap.size w6 W := hE
    have o3 := hO 3 (by kernel_rfl)
    replace o3 : aa.tmps[3]? = some (.pointer (some ⟨p, 0, none⟩)) := o3
    have p0 : W.cell? ⟨p, 0, none⟩ = some (.int .u8 (b.kd : Int)) := dr_cell (At.keep hC6.out hE (by omega)) 0 rfl
    have p1 : W.cell? ⟨p, 1, none⟩ = some (.int .u16 (b.n0 : Int)) := dr_cell (At.keep hC6.out hE (by omega)) 1 rfl
    have p2 : W.cell? ⟨p, 2, none⟩ = some (.int .u16 (b.n1 : Int)) := dr_cell (At.keep hC6.out hE (by omega)) 2 rfl
    have p3 : W.cell? ⟨p, 3, none⟩ = some (.int .u16 (b.n2 : Int)) := dr_cell (At.keep hC6.out hE (by omega)) 3 rfl
    have p4 : W.cell? ⟨p, 4, none⟩ = some (.int .u16 (b.n3 : Int)) := dr_cell (At.keep hC6.out hE (by omega)) 4 rfl
    have p5 : W.cell? ⟨p, 5, none⟩ = some (.int .u16 (b.n4 : Int)) := dr_cell (At.keep hC6.out hE (by omega)) 5 rfl
    have p6 : W.cell? ⟨p, 6, none⟩ = some (.int .u16 (b.n5 : Int)) := dr_cell (At.keep hC6.out hE (by omega)) 6 rfl
    have p7 : W.cell? ⟨p, 7, none⟩ = some (.int .u16 (b.n6 : Int)) := dr_cell (At.keep hC6.out hE (by omega)) 7 rfl
    have p8 : W.cell? ⟨p, 8, none⟩ = some (.int .u16 (b.n7 : Int)) := dr_cell (At.keep hC6.out hE (by omega)) 8 rfl
    have p9 : W.cell? ⟨p, 9, none⟩ = some (.int .u64 (b.b0 : Int)) := dr_cell (At.keep hC6.out hE (by omega)) 9 rfl
    have p10 : W.cell? ⟨p, 10, none⟩ = some (.int .u64 (b.b1 : Int)) := dr_cell (At.keep hC6.out hE (by omega)) 10 rfl
    have p11 : W.cell? ⟨p, 11, none⟩ = some (.slice y K cb) := dr_cell (At.keep hC6.out hE (by omega)) 11 rfl
    go_wp2_with fail
    first | exact ⟨_, rfl, Below.refl _ _, VK.val rfl rfl, trivial⟩ | exact ⟨_, rfl, Below.refl _ _, VK.val rfl rfl⟩
  · intro ys done W aa hE hn hF hD hZ hG hO
    replace hE : Below w6.heap.size w6 W := hE
    have v10 := (hF 10 (by decide) (hD 10 (by kernel_rfl))).eq rfl
    have g10 := hG 10 42 rfl (Nat.le_of_ble_eq_true rfl)
    rw [v10] at g10
    have hC := Lib.hid (hMb.out W ((RowB.keep hcW6.out hE (by omega)).more (Nat.le_trans (by omega) hE.size)))
    go_wp2_with fail
    refine hC.out.mono ?_
    rintro e W' ⟨yy, cc, rfl, -, hb'⟩
    replace hb' := Lib.hid hb'
    go_wp2_with fail
    first | exact ⟨_, rfl, hb'.out, VK.of rfl ⟨_, _, rfl⟩, trivial⟩ | exact ⟨_, rfl, hb'.out, VK.of rfl ⟨_, _, rfl⟩⟩
  · intro ys done W aa hE hn hF hD hZ hG hO
    replace hE : Below w6.heap.size w6 W := hE
    obtain ⟨y11, c11, v11⟩ := (hF 11 (by decide) (hD 11 (by kernel_rfl))).get rfl
    have g11 := hG 11 43 rfl (Nat.le_of_ble_eq_true rfl)
    rw [v11] at g11
    have hfm := fun W => field_marks (v := .slice y11 kb c11) hdb W
    go_wp2_with fail
    first | exact ⟨_, rfl, Below.refl _ _, VK.of rfl ⟨_, _, rfl⟩, trivial⟩ | exact ⟨_, rfl, Below.refl _ _, VK.of rfl ⟨_, _, rfl⟩⟩
  · intro ys done W aa hE hn hF hD hZ hG hO
    replace hE : Below w6.heap.size w6 W := hE
    obtain ⟨y12, c12, v12⟩ := (hF 12 (by decide) (hD 12 (by kernel_rfl))).get rfl
    have g12 := hG 12 44 rfl (Nat.le_of_ble_eq_true rfl)
    rw [v12] at g12
    go_wp2_with fail
    first | exact ⟨_, rfl, Below.refl _ _, VK.val rfl rfl, trivial⟩ | exact ⟨_, rfl, Below.refl _ _, VK.val rfl rfl⟩
  · intro ys done W aa hE hn hF hD hZ hG hO
    replace hE : Below w6.heap.size w6 W := hE
    have v13 := (hF 13 (by decide) (hD 13 (by kernel_rfl))).eq rfl
    have g13 := hG 13 45 rfl (Nat.le_of_ble_eq_true rfl)
    rw [v13] at g13
    go_wp2_with fail
    first | exact ⟨_, rfl, Below.refl _ _, VK.val rfl rfl, trivial⟩ | exact ⟨_, rfl, Below.refl _ _, VK.val rfl rfl⟩
  · intro ys done W aa hE hn hF hD hZ hG hO
    replace hE : Below w6.heap.size w6 W := hE
    have v9 := (hF 9 (by decide) (hD 9 (by kernel_rfl))).eq rfl
    have g9 := hG 9 41 rfl (Nat.le_of_ble_eq_true rfl)
    rw [v9] at g9
    have v14 := (hF 14 (by decide) (hD 14 (by kernel_rfl))).eq rfl
    have g14 := hG 14 46 rfl (Nat.le_of_ble_eq_true rfl)
    rw [v14] at g14
    go_wp2_with fail
    first | exact ⟨_, rfl, Below.refl _ _, VK.val rfl rfl, trivial⟩ | exact ⟨_, rfl, Below.refl _ _, VK.val rfl rfl⟩
  · intro ys done W aa hE hn hF hD hZ hG hO
    replace hE : Below w6.heap.size w6 W := hE
    have v7 := (hF 7 (by decide) (hD 7 (by kernel_rfl))).eq rfl
    have g7 := hG 7 39 rfl (Nat.le_of_ble_eq_true rfl)
    rw [v7] at g7
    have v15 := (hF 15 (by decide) (hD 15 (by kernel_rfl))).eq rfl
    have g15 := hG 15 47 rfl (Nat.le_of_ble_eq_true rfl)
    rw [v15] at g15
    have heq : (la : Int) - 33 * (ka : Int) = (lb : Int) - 33 * (kb : Int) := hlong
    go_wp2_with fail
    first | exact ⟨_, rfl, Below.refl _ _, VK.val rfl rfl, trivial⟩ | exact ⟨_, rfl, Below.refl _ _, VK.val rfl rfl⟩
 case hQ =>
  intro ys w7 hE hF _
  replace hE : Below w6.heap.size w6 w7 := hE
  have v16 := (hF 16 (by decide)).eq rfl
  have hB7 := Lib.hid (hB6.out.trans (hE.mono (by omega)))
  simp only [List.take_succ_cons, List.take_zero, List.drop_succ_cons, List.drop_zero, Sched.fill, v16]
  clear hF v16 hE hA6 hC6 hbW6 hcW6 hB6
  go_simp
  go_wp2
  go_ret
  exact ⟨rfl, hB7.out⟩
end Go.Proofs.Ytpefdmkfmcjfnaa.Df
/-
  MsgLong, that how long a message is hangs on its kind, and the number of its marks, alone, returns true: for all pairs of drafts of messages. No condition.
-/
namespace Go.Proofs.Ytpefdmkfmcjfnaa.msgLong
open Go.ChangeShapes Go.WideShapes Go.ChangeAt Go.RowKit Go.Proofs.Ytpefdmkfmcjfnaa.Oct Go.Proofs.Ytpefdmkfmcjfnaa.Ms Go.Proofs.Ytpefdmkfmcjfnaa.Mp Go.Proofs.Ytpefdmkfmcjfnaa.Df
set_option linter.unusedVariables false
set_option maxRecDepth 100000 in
set_option maxHeartbeats 4000000 in
theorem lifted (os : Os) (started : os.Started) (H : Type) (enc : TypeId × Value → H) :
 ReturnsInHanded {} Try.checked os 7 .any (Rows.msgLongSpec.pre6 enc Try.prog Try.f7 Rows.msgLongRow.domain false) (Rows.msgLongSpec.post enc Try.prog Try.f7 false true false false) := by
 refine returnsInHanded_of_change (C := Try.checked) own started (by kernel_rfl) Try.func7
  (ChangeSpec.witness6 (enc := enc) (C := Try.checked) false ⟨#[], #[.agg #[.int .u8 0, .int .u16 0, .int .u16 0, .int .u16 0, .int .u16 0, .int .u16 0, .int .u16 0, .int .u16 0, .int .u16 0, .int .u64 0, .int .u64 0, .slice none 0 0], .agg #[.int .u8 0, .int .u16 0, .int .u16 0, .int .u16 0, .int .u16 0, .int .u16 0, .int .u16 0, .int .u16 0, .int .u16 0, .int .u64 0, .int .u64 0, .slice none 0 0]], []⟩ 8 (by kernel_rfl) (by kernel_rfl) (by kernel_rfl) (by kernel_rfl)) ?_
 intro W base args ds gs before hval0 hW hcnd _
 have hval : ∀ (j : Nat) t v, Try.f7.params[j]? = some t → args[j]? = some v → Value.okWide Try.prog W .any base t v := hval0
 have hW' := hW
 obtain ⟨p, q, hA0, hV, rfl, hfz, hnd⟩ := hW
 have hA : DataW.TrodAll enc Try.prog W 0 (fun _ => true) true Try.f7.params.toList args.toList ds p := hA0
 rw [Try.params7] at hA hval
 obtain ⟨v0, vs0, d0, ds0, p0, q0, hargs, rfl, rfl, h0, r0⟩ := trodAll_cons hA
 obtain ⟨v1, vs1, d1, ds1, p1, q1, rfl, rfl, rfl, h1, r1⟩ := trodAll_cons r0
 obtain ⟨rfl, rfl, rfl⟩ := trodAll_nil r1
 obtain rfl : args = #[v0, v1] := by cases args; simp_all
 obtain ⟨rfl, rfl⟩ := trodVars_none hV
 obtain ⟨x0, L0, c0, dr0, rfl, hby0, hok0⟩ := openDraft (hval 0 28 v0 rfl rfl) h0
 obtain ⟨x1, L1, c1, dr1, rfl, hby1, hok1⟩ := openDraft (hval 1 28 v1 rfl rfl) h1
 exact (Df.long_walk dr0 dr1 hok0 hok1 x0 L0 c0 x1 L1 c1 W hby0 hby1).mono fun e W' ⟨he, hb⟩ => ⟨_, he, Close.law_post laidOut (by kernel_rfl) rfl (by kernel_rfl) Try.underlying4 hW' rfl hb⟩
theorem over : Rows.msgLongRow.holds Try.pinned (OpenSpec.ofChange Rows.msgLongSpec) :=
 OpenClaim.holds_of_wide 7 Try.f7 rfl rfl rfl rfl rfl rfl rfl ⟨rfl, rfl, rfl, rfl, rfl⟩ rfl rfl rfl rfl rfl (by kernel_rfl) Try.func7 (by kernel_rfl)
  (of_decide_eq_true (by kernel_rfl)) (by unfold Func.isWrapper; first | (rw [if_pos (by decide +kernel)]; kernel_rfl) | (rw [if_neg (by decide +kernel)]; exact ⟨rfl, rfl⟩))
  (fun os started H enc _ => lifted os started H enc)
theorem proved : Rows.MsgLongSaid := over
#print axioms proved
end Go.Proofs.Ytpefdmkfmcjfnaa.msgLong

import Derived.Test.YtpefdmkfmcjfnaaPkMsPDec2

namespace Go.Proofs.Ytpefdmkfmcjfnaa.Mp
open Go.RowKit Go.Sort Go.Proofs.Ytpefdmkfmcjfnaa.Mem Go.Proofs.Ytpefdmkfmcjfnaa.Route Go.Proofs.Ytpefdmkfmcjfnaa.Oct Go.Proofs.Ytpefdmkfmcjfnaa.Ms Go.Proofs.Ytpefdmkfmcjfnaa.Part
set_option linter.unusedVariables false
theorem wpList_build_w {P : Program} {ops : Array Oper} {rest : List Oper} {o : Oper} {a : Act} {w : World} {Q : Exit → Act → World → Prop} (hg : Region.wanted o (yielded ops a.tmps) = true) (t : TypeId) (parts : Array (Nat × Operand)) (ho : o.op = .build t parts) (cells : Array Value)
 (hb : P.built t (parts.map fun (i, x) => (i, a.eval x)).toList = some cells) (h : wpList P ops Q rest (a.put o.dst (.agg cells)) w) : wpList P ops Q (o :: rest) a w :=
 BigFrame.wpList_want hg fun K hK => wp_build t parts ho (by rw [hb]; rfl) (by rw [hb]; exact hK _ _ h)
theorem same_self (a : Ms) : sameB a a = true := (sameB_iff a a).2 rfl
theorem same_yes {a b : Ms} (hab : a = b) (va vb : Value) (ha : a.ok) (w : World) (hA : MarksAt w.heap.size w va a.marks) (hB : MarksAt w.heap.size w vb b.marks) :
 Calls Try.prog 19 #[.agg (msC a va).toArray, .agg (msC b vb).toArray] w fun e w' => e = .returned (.bool true) ∧ Below w.heap.size w w' := by
 subst hab
 have := same_full a a va vb ha ha w hA hB
 rwa [same_self] at this
set_option maxRecDepth 100000 in
set_option maxHeartbeats 8000000 in
theorem refused_any (s : Bs) (E : Int) (hs : s.length ≤ 9223372036854775000) (hd : decS s = (z0, E)) (w : World) :
 Calls Try.prog 20 #[.string (str s), .int .i64 E] w fun e w' => e = .returned (.bool true) ∧ Below w.heap.size w w' := by
 have hD := Decode_any s hs w
 rw [hd] at hD
 replace hD := Lib.hid hD
 clear hs hd
 go_enter Try.func20, Try.ntmps20
 go_wp2_with fail
 refine hD.out.mono ?_
 rintro e w1 ⟨x, N, c, rfl, hK1, hb1⟩
 obtain ⟨q, hq⟩ : ∃ q, w1.heap.size = q := ⟨_, rfl⟩
 have hq0 : AtL (w1.alloc (.cells (msC z0 nilS).toArray 42)) q 42 (msC z0 nilS) := by rw [← hq]; exact AtL.new w1 _ _
 have hM2 := Lib.hid (atL_eq (hq0.row (putL (msC z0 nilS) 0 (msC z0 (.slice x N c)))) (put_msg z0d z0d))
 have hb2 : Below w1.heap.size w1 (w1.alloc (.cells (msC z0 nilS).toArray 42)) := (Below.refl _ _).alloc (Nat.le_refl _) _
 have hB2 := Lib.hid (below_row (hb1.trans (hb2.mono hb1.size)) (g := q) (by rw [← hq]; exact hb1.size) (putL (msC z0 nilS) 0 (msC z0 (.slice x N c))).toArray)
 have hK2 := Lib.hid (hK1.marks.keep (below_row hb2 (g := q) (by rw [← hq]; exact Nat.le_refl _) (putL (msC z0 nilS) 0 (msC z0 (.slice x N c))).toArray) (Nat.le_refl _))
 rw [← hq] at hq0
 replace hq0 := Lib.hid hq0
 replace hq := Lib.hid hq
 clear hK1 hb1 hb2 hD
 go_upto_region 2 with (rw [z0_lit]; refine wpList_store_part rfl 42 _ _ rfl w1.heap.size 0 (msC z0 (.slice x N c)) rfl rfl 42 (msC z0 nilS) hq0.out (size_msg z0d) (less_msg z0d z0d) (ms_one rfl) ?_)
 try simp only [Act.put]
 rw [hq.out]
 have hz2 : w1.heap.size ≤ ((w1.alloc (.cells (msC z0 nilS).toArray 42)).setRow q (putL (msC z0 nilS) 0 (msC z0 (.slice x N c))).toArray).heap.size := by rw [setRow_size, World.size_alloc]; omega
 generalize (w1.alloc (.cells (msC z0 nilS).toArray 42)).setRow q (putL (msC z0 nilS) 0 (msC z0 (.slice x N c))).toArray = w2 at hM2 hB2 hK2 hz2 ⊢
 have hS := Lib.hid (same_yes (a := z0) rfl (.slice x N c) nilS z_ok w2 (hK2.out.more hz2) (RowB.nil _ _ _))
 clear hq0 hq hz2
 refine wp_region_list ?_
 (refine BigFrame.wpList_want rfl ?_; intro K hK; replace hK := Lib.hid hK; go_wp2_with fail; refine hK.out _ _ ?_; clear hK K) -- 0
 (refine BigFrame.wpList_want rfl ?_; intro K hK; replace hK := Lib.hid hK; go_wp2_with fail; refine hK.out _ _ ?_; clear hK K) -- 1
 (refine BigFrame.wpList_want rfl ?_; intro K hK; replace hK := Lib.hid hK; go_wp2_with fail; refine hK.out _ _ ?_; clear hK K) -- 2
 (refine BigFrame.wpList_want rfl ?_; intro K hK; replace hK := Lib.hid hK; go_wp2_with fail; refine hK.out _ _ ?_; clear hK K) -- 3
 refine wpList_load_part_w rfl 42 _ rfl q 0 rfl (msC z0 (.slice x N c)) (fun j v hv => by rw [Nat.zero_add]; exact hM2.out.get hv) _ Try.underlying42 rfl (size_msg z0d) ?_
 go_simp
 refine wpList_build_w rfl 42 _ rfl (msC z0 nilS).toArray (by kernel_rfl) ?_
 go_simp
 (refine BigFrame.wpList_want rfl ?_; intro K hK; replace hK := Lib.hid hK; go_wp2_with fail)
 refine hS.out.mono ?_
 rintro e w3 ⟨rfl, hb3⟩
 go_wp2_with fail
 refine hK.out _ _ ?_
 clear hK K
 go_wp2
 go_ret
 exact ⟨rfl, hB2.out.trans (hb3.mono hB2.out.size)⟩
def x1 : Ms := { z0 with kind := 4, rnd := 3, car := 1, bid := 7, nonce := 9 }
theorem x1_ok : x1.ok ∧ x1.wide := ⟨⟨rfl, fun p hp => by cases hp⟩, ⟨by decide, by decide, by decide⟩⟩
theorem x1_enc : encL x1 = [4, 0, 18, 3, 1, 0, 0, 0, 0, 0, 0, 0, 7, 0, 0, 0, 0, 0, 0, 0, 9] ∧ encE x1 = 0 := by decide +kernel
theorem enc_x1 (w : World) : Calls Try.prog 17 #[.agg (msC x1 nilS).toArray] w fun e w' => e = .returned (.tuple #[.string ⟨#[4, 0, 18, 3, 1, 0, 0, 0, 0, 0, 0, 0, 7, 0, 0, 0, 0, 0, 0, 0, 9]⟩, .int .i64 0]) ∧ Below w.heap.size w w' := by
 have h := Encode_any x1 none 0 0 x1_ok.1 x1_ok.2 w (RowB.nil _ _ _)
 rw [x1_enc.1, x1_enc.2] at h
 exact h
def x2 : Ms := { z0 with kind := 5, oc := ⟨3, -1, 0⟩ }
theorem x2_ok : x2.ok ∧ x2.wide := ⟨⟨rfl, fun p hp => by cases hp⟩, ⟨by decide, by decide, by decide⟩⟩
theorem x2_enc : encL x2 = [5, 0, 11, 0, 3, 0, 0, 0, 0, 0, 0, 0, 0, 0] ∧ encE x2 = 0 := by decide +kernel
theorem enc_x2 (w : World) : Calls Try.prog 17 #[.agg (msC x2 nilS).toArray] w fun e w' => e = .returned (.tuple #[.string ⟨#[5, 0, 11, 0, 3, 0, 0, 0, 0, 0, 0, 0, 0, 0]⟩, .int .i64 0]) ∧ Below w.heap.size w w' := by
 have h := Encode_any x2 none 0 0 x2_ok.1 x2_ok.2 w (RowB.nil _ _ _)
 rw [x2_enc.1, x2_enc.2] at h
 exact h
def x3 : Ms := { z0 with kind := 3, rnd := 2 }
theorem x3_ok : x3.ok ∧ x3.wide := ⟨⟨rfl, fun p hp => by cases hp⟩, ⟨by decide, by decide, by decide⟩⟩
theorem x3_enc : encL x3 = [3, 0, 2, 2, 0] ∧ encE x3 = 0 := by decide +kernel
theorem enc_x3 (w : World) : Calls Try.prog 17 #[.agg (msC x3 nilS).toArray] w fun e w' => e = .returned (.tuple #[.string ⟨#[3, 0, 2, 2, 0]⟩, .int .i64 0]) ∧ Below w.heap.size w w' := by
 have h := Encode_any x3 none 0 0 x3_ok.1 x3_ok.2 w (RowB.nil _ _ _)
 rw [x3_enc.1, x3_enc.2] at h
 exact h
theorem dec_x3 : decS [3, 0, 2, 2, 0] = (x3, 0) := by kernel_rfl
theorem dec_a : decS [3, 0, 2, 2, 1] = (z0, 14) := by kernel_rfl
theorem dec_b : decS [9, 0, 0] = (z0, 15) := by kernel_rfl
theorem dec_c : decS [3, 0, 3, 2, 0, 0] = (z0, 15) := by kernel_rfl
theorem ref_a (w : World) : Calls Try.prog 20 #[.string ⟨#[3, 0, 2, 2, 1]⟩, .int .i64 14] w fun e w' => e = .returned (.bool true) ∧ Below w.heap.size w w' := refused_any [3, 0, 2, 2, 1] 14 (by decide) dec_a w
theorem ref_b (w : World) : Calls Try.prog 20 #[.string ⟨#[9, 0, 0]⟩, .int .i64 15] w fun e w' => e = .returned (.bool true) ∧ Below w.heap.size w w' := refused_any [9, 0, 0] 15 (by decide) dec_b w
theorem ref_c (w : World) : Calls Try.prog 20 #[.string ⟨#[3, 0, 3, 2, 0, 0]⟩, .int .i64 15] w fun e w' => e = .returned (.bool true) ∧ Below w.heap.size w w' := refused_any [3, 0, 3, 2, 0, 0] 15 (by decide) dec_c w
set_option maxRecDepth 100000 in
set_option maxHeartbeats 16000000 in
theorem works_any (w : World) : Calls Try.prog 13 #[] w fun e w' => e = .returned (.bool true) ∧ Below w.heap.size w w' := by
 obtain ⟨n, hn⟩ : ∃ n, w.heap.size = n := ⟨_, rfl⟩
 rw [hn]
 have hB0 : Below n w w := .refl _ _
 have hz0 : n ≤ w.heap.size := by omega
 replace hn := Lib.hid hn
 go_enter Try.func13, Try.ntmps13
 go_wp2_with (refine wpList_build_w rfl 42 _ rfl (msC x1 nilS).toArray (by kernel_rfl) ?_)
 refine (enc_x1 _).mono ?_
 rintro e w1 ⟨rfl, hb1⟩
 have hB1 := hB0.trans (hb1.mono hz0)
 have hz1 := Nat.le_trans hz0 hb1.size
 clear hb1 hB0 hz0
 go_wp2_with (refine wpList_build_w rfl 42 _ rfl (msC x2 nilS).toArray (by kernel_rfl) ?_)
 refine (enc_x2 _).mono ?_
 rintro e w2 ⟨rfl, hb2⟩
 have hB2 := hB1.trans (hb2.mono hz1)
 have hz2 := Nat.le_trans hz1 hb2.size
 clear hb2 hB1 hz1
 go_wp2_with (refine wpList_build_w rfl 42 _ rfl (msC x3 nilS).toArray (by kernel_rfl) ?_)
 refine (enc_x3 _).mono ?_
 rintro e w3 ⟨rfl, hb3⟩
 have hB3 := hB2.trans (hb3.mono hz2)
 have hz3 := Nat.le_trans hz2 hb3.size
 clear hb3 hB2 hz2
 have hD := Decode_any [3, 0, 2, 2, 0] (by decide) w3
 rw [dec_x3] at hD
 replace hD := Lib.hid (show Calls Try.prog 18 #[.string ⟨#[3, 0, 2, 2, 0]⟩] w3 fun e w' => MsgOut x3 0 w3 e w' from hD)
 have hd3 : x3.dig.length = 32 := rfl
 go_wp2_with fail
 refine hD.out.mono ?_
 rintro e w4 ⟨x, N, c, rfl, hK4, hb4⟩
 have hB4 := hB3.trans (hb4.mono hz3)
 have hz4 := Nat.le_trans hz3 hb4.size
 obtain ⟨q, hq⟩ : ∃ q, w4.heap.size = q := ⟨_, rfl⟩
 have hq0 : AtL (w4.alloc (.cells (msC z0 nilS).toArray 42)) q 42 (msC z0 nilS) := by rw [← hq]; exact AtL.new w4 _ _
 have hM5 := Lib.hid (atL_eq (hq0.row (putL (msC z0 nilS) 0 (msC x3 (.slice x N c)))) (put_msg z0d hd3))
 have hb5 : Below w4.heap.size w4 (w4.alloc (.cells (msC z0 nilS).toArray 42)) := (Below.refl _ _).alloc (Nat.le_refl _) _
 have hB5 := Lib.hid (below_row (hB4.trans (hb5.mono hz4)) (g := q) (by rw [← hq]; exact hz4) (putL (msC z0 nilS) 0 (msC x3 (.slice x N c))).toArray)
 have hK5 := Lib.hid (hK4.marks.keep (below_row hb5 (g := q) (by rw [← hq]; exact Nat.le_refl _) (putL (msC z0 nilS) 0 (msC x3 (.slice x N c))).toArray) (Nat.le_refl _))
 rw [← hq] at hq0
 replace hq0 := Lib.hid hq0
 replace hq := Lib.hid hq
 clear hK4 hb4 hb5 hD hB3 hz3 hB4
 go_upto_region 5 with (rw [z0_lit]; refine wpList_store_part rfl 42 _ _ rfl w4.heap.size 0 (msC x3 (.slice x N c)) rfl rfl 42 (msC z0 nilS) hq0.out (size_msg z0d) (less_msg z0d hd3) (ms_one rfl) ?_)
 try simp only [Act.put]
 rw [hq.out]
 have hz5 : w4.heap.size ≤ ((w4.alloc (.cells (msC z0 nilS).toArray 42)).setRow q (putL (msC z0 nilS) 0 (msC x3 (.slice x N c))).toArray).heap.size := by rw [setRow_size, World.size_alloc]; omega
 generalize (w4.alloc (.cells (msC z0 nilS).toArray 42)).setRow q (putL (msC z0 nilS) 0 (msC x3 (.slice x N c))).toArray = w5 at hM5 hB5 hK5 hz5 ⊢
 have hz6 := Nat.le_trans hz4 hz5
 have hS := Lib.hid (same_yes (a := x3) rfl (.slice x N c) nilS x3_ok.1 w5 (hK5.out.more hz5) (RowB.nil _ _ _))
 clear hq0 hq hz5 hK5
 go_upto_region 6 with fail
 refine wp_region_list ?_
 (refine BigFrame.wpList_want rfl ?_; intro K hK; replace hK := Lib.hid hK; go_wp2_with fail; refine hK.out _ _ ?_; clear hK K) -- 0
 (refine BigFrame.wpList_want rfl ?_; intro K hK; replace hK := Lib.hid hK; go_wp2_with fail; refine hK.out _ _ ?_; clear hK K) -- 1
 (refine BigFrame.wpList_want rfl ?_; intro K hK; replace hK := Lib.hid hK; go_wp2_with fail; refine hK.out _ _ ?_; clear hK K) -- 2
 (refine BigFrame.wpList_want rfl ?_; intro K hK; replace hK := Lib.hid hK; go_wp2_with fail; refine hK.out _ _ ?_; clear hK K) -- 3
 (refine BigFrame.wpList_want rfl ?_; intro K hK; replace hK := Lib.hid hK; go_wp2_with fail; refine hK.out _ _ ?_; clear hK K) -- 4
 (refine BigFrame.wpList_want rfl ?_; intro K hK; replace hK := Lib.hid hK; go_wp2_with fail; refine hK.out _ _ ?_; clear hK K) -- 5
 (refine BigFrame.wpList_want rfl ?_; intro K hK; replace hK := Lib.hid hK; go_wp2_with fail; refine hK.out _ _ ?_; clear hK K) -- 6
 (refine BigFrame.wpList_want rfl ?_; intro K hK; replace hK := Lib.hid hK; go_wp2_with fail; refine hK.out _ _ ?_; clear hK K) -- 7
 (refine BigFrame.wpList_want rfl ?_; intro K hK; replace hK := Lib.hid hK; go_wp2_with fail; refine hK.out _ _ ?_; clear hK K) -- 8
 (refine BigFrame.wpList_want rfl ?_; intro K hK; replace hK := Lib.hid hK; go_wp2_with fail; refine hK.out _ _ ?_; clear hK K) -- 9
 (refine BigFrame.wpList_want rfl ?_; intro K hK; replace hK := Lib.hid hK; go_wp2_with fail; refine hK.out _ _ ?_; clear hK K) -- 10
 (refine BigFrame.wpList_want rfl ?_; intro K hK; replace hK := Lib.hid hK; go_wp2_with fail; refine hK.out _ _ ?_; clear hK K) -- 11
 (refine BigFrame.wpList_want rfl ?_; intro K hK; replace hK := Lib.hid hK; go_wp2_with fail; refine hK.out _ _ ?_; clear hK K) -- 12
 (refine BigFrame.wpList_want rfl ?_; intro K hK; replace hK := Lib.hid hK; go_wp2_with fail; refine hK.out _ _ ?_; clear hK K) -- 13
 refine wpList_load_part_w rfl 42 _ rfl q 0 rfl (msC x3 (.slice x N c)) (fun j v hv => by rw [Nat.zero_add]; exact hM5.out.get hv) _ Try.underlying42 rfl (size_msg hd3) ?_
 go_simp
 refine wpList_build_w rfl 42 _ rfl (msC x3 nilS).toArray (by kernel_rfl) ?_
 go_simp
 (refine BigFrame.wpList_want rfl ?_; intro K hK; replace hK := Lib.hid hK; go_wp2_with fail)
 refine (hS.out).mono ?_
 rintro e w6 ⟨rfl, hb6⟩
 have hB6 := Lib.hid ((hB5.out).trans (hb6.mono hz6))
 have hz6' := Nat.le_trans hz6 hb6.size
 clear hb6
 go_wp2_with fail
 refine hK.out _ _ ?_
 clear hK K
 (refine BigFrame.wpList_want rfl ?_; intro K hK; replace hK := Lib.hid hK; go_wp2_with fail; refine hK.out _ _ ?_; clear hK K) -- 17
 (refine BigFrame.wpList_want rfl ?_; intro K hK; replace hK := Lib.hid hK; go_wp2_with fail; refine hK.out _ _ ?_; clear hK K) -- 18
 (refine BigFrame.wpList_want rfl ?_; intro K hK; replace hK := Lib.hid hK; go_wp2_with fail)
 refine (ref_a _).mono ?_
 rintro e w7 ⟨rfl, hb7⟩
 have hB7 := Lib.hid ((hB6.out).trans (hb7.mono hz6'))
 have hz7' := Nat.le_trans hz6' hb7.size
 clear hb7
 go_wp2_with fail
 refine hK.out _ _ ?_
 clear hK K
 (refine BigFrame.wpList_want rfl ?_; intro K hK; replace hK := Lib.hid hK; go_wp2_with fail; refine hK.out _ _ ?_; clear hK K) -- 20
 (refine BigFrame.wpList_want rfl ?_; intro K hK; replace hK := Lib.hid hK; go_wp2_with fail; refine hK.out _ _ ?_; clear hK K) -- 21
 (refine BigFrame.wpList_want rfl ?_; intro K hK; replace hK := Lib.hid hK; go_wp2_with fail)
 refine (ref_b _).mono ?_
 rintro e w8 ⟨rfl, hb8⟩
 have hB8 := Lib.hid ((hB7.out).trans (hb8.mono hz7'))
 have hz8' := Nat.le_trans hz7' hb8.size
 clear hb8
 go_wp2_with fail
 refine hK.out _ _ ?_
 clear hK K
 (refine BigFrame.wpList_want rfl ?_; intro K hK; replace hK := Lib.hid hK; go_wp2_with fail; refine hK.out _ _ ?_; clear hK K) -- 23
 (refine BigFrame.wpList_want rfl ?_; intro K hK; replace hK := Lib.hid hK; go_wp2_with fail; refine hK.out _ _ ?_; clear hK K) -- 24
 (refine BigFrame.wpList_want rfl ?_; intro K hK; replace hK := Lib.hid hK; go_wp2_with fail)
 refine (ref_c _).mono ?_
 rintro e w9 ⟨rfl, hb9⟩
 have hB9 := Lib.hid ((hB8.out).trans (hb9.mono hz8'))
 have hz9' := Nat.le_trans hz8' hb9.size
 clear hb9
 go_wp2_with fail
 refine hK.out _ _ ?_
 clear hK K
 go_wp2
 go_ret
 exact ⟨rfl, hB9.out⟩
set_option maxRecDepth 100000 in
set_option maxHeartbeats 8000000 in
theorem lays_any (m : Ms) (x : Option Addr) (N cap : Nat) (hm : m.ok) (hw : m.wide) (w : World) (hM : MarksAt w.heap.size w (.slice x N cap) m.marks) :
 Calls Try.prog 11 #[.agg (msC m (.slice x N cap)).toArray] w fun e w' => e = .returned (.bool true) ∧ Below w.heap.size w w' := by
 obtain ⟨n, hn⟩ : ∃ n, w.heap.size = n := ⟨_, rfl⟩
 have hA : AtL (w.alloc (.cells (msC m (.slice x N cap)).toArray 42)) n 42 (msC m (.slice x N cap)) := by rw [← hn]; exact AtL.new w _ _
 have hB : Below n w (w.alloc (.cells (msC m (.slice x N cap)).toArray 42)) := (Below.refl _ _).alloc (Nat.le_of_eq hn.symm) _
 have hM1 := (RowB.keep hM (by rw [hn]; exact hB) (Nat.le_of_eq rfl)).more (Nat.le_trans (Nat.le_of_eq rfl) (by rw [hn]; exact Nat.le_of_lt hA.inside) : w.heap.size ≤ (w.alloc (.cells (msC m (.slice x N cap)).toArray 42)).heap.size)
 have hz : n ≤ (w.alloc (.cells (msC m (.slice x N cap)).toArray 42)).heap.size := Nat.le_of_lt hA.inside
 rw [show Below w.heap.size w = Below n w by rw [hn]]
 have hd := hm.dig
 replace hn := Lib.hid hn
 replace hA := Lib.hid hA
 replace hB := Lib.hid hB
 replace hz := Lib.hid hz
 replace hM1 := Lib.hid hM1
 clear hM
 go_enter Try.func11, Try.ntmps11
 go_upto_region 1 with fail
 rw [hn.out]
 generalize w.alloc (.cells (msC m (.slice x N cap)).toArray 42) = w1 at hA hB hz hM1 ⊢
 replace hz := hz.out
 have hE := Lib.hid (Encode_any m x N cap hm hw w1 hM1.out)
 have hld := Lib.hid (fun j v (hv : (msC m (.slice x N cap))[j]? = some v) => (show w1.cell? ⟨n, 0 + j, none⟩ = some v by rw [Nat.zero_add]; exact hA.out.get hv))
 go_wp2_with (refine wpList_load_part rfl 42 _ rfl n 0 rfl (msC m (.slice x N cap)) hld.out _ Try.underlying42 rfl (size_msg hd) ?_)
 refine hE.out.mono ?_
 rintro e w2 ⟨rfl, hb2⟩
 have hA2 := hA.out.on hb2
 have hB2 := Lib.hid (hB.out.trans (hb2.mono hz))
 have hz2 := Nat.le_trans hz hb2.size
 have hR := Lib.hid (refEncode_any m x N cap hm hw w2 ((RowB.keep hM1.out hb2 (Nat.le_refl _)).more hb2.size))
 have hld2 := Lib.hid (fun j v (hv : (msC m (.slice x N cap))[j]? = some v) => (show w2.cell? ⟨n, 0 + j, none⟩ = some v by rw [Nat.zero_add]; exact hA2.get hv))
 clear hE hld hb2 hA hA2 hB hz hM1
 generalize encL m = S at hR ⊢
 generalize encE m = E at hR ⊢
 go_wp2_with (refine wpList_load_part rfl 42 _ rfl n 0 rfl (msC m (.slice x N cap)) hld2.out _ Try.underlying42 rfl (size_msg hd) ?_)
 refine hR.out.mono ?_
 rintro e w3 ⟨rfl, hb3⟩
 have hB3 := Lib.hid (hB2.out.trans (hb3.mono hz2))
 clear hR hld2 hb3 hB2 hz2
 go_wp2
 go_ret
 exact ⟨rfl, hB3.out⟩
end Go.Proofs.Ytpefdmkfmcjfnaa.Mp

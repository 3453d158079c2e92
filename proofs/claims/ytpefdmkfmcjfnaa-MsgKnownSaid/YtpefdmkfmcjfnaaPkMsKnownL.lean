import Derived.Test.YtpefdmkfmcjfnaaPkDfMsg
import Derived.Test.YtpefdmkfmcjfnaaPkMsKnMath

namespace Go.Proofs.Ytpefdmkfmcjfnaa.Df
open Go.RowKit Go.Sort Go.Proofs.Ytpefdmkfmcjfnaa.Mem Go.Proofs.Ytpefdmkfmcjfnaa.Route Go.Proofs.Ytpefdmkfmcjfnaa.Oct Go.Proofs.Ytpefdmkfmcjfnaa.Ms Go.Proofs.Ytpefdmkfmcjfnaa.Part Go.Proofs.Ytpefdmkfmcjfnaa.Mp
set_option linter.unusedVariables false
theorem ref_d (w : World) : Calls Try.prog 20 #[.string ⟨#[]⟩, .int .i64 14] w fun e w' => e = .returned (.bool true) ∧ Below w.heap.size w w' := refused_any [] 14 (by decide) (by kernel_rfl) w
theorem ref_e (w : World) : Calls Try.prog 20 #[.string ⟨#[4, 0, 18]⟩, .int .i64 14] w fun e w' => e = .returned (.bool true) ∧ Below w.heap.size w w' := refused_any [4, 0, 18] 14 (by decide) (by kernel_rfl) w
theorem ref_f (w : World) : Calls Try.prog 20 #[.string ⟨#[5, 0, 11, 0, 3, 1, 0, 0, 0, 0, 0, 0, 0, 0]⟩, .int .i64 15] w fun e w' => e = .returned (.bool true) ∧ Below w.heap.size w w' := refused_any [5, 0, 11, 0, 3, 1, 0, 0, 0, 0, 0, 0, 0, 0] 15 (by decide) (by kernel_rfl) w
theorem ref_g (w : World) : Calls Try.prog 20 #[.string ⟨#[5, 0, 11, 16, 3, 0, 0, 0, 0, 0, 0, 0, 0, 0]⟩, .int .i64 15] w fun e w' => e = .returned (.bool true) ∧ Below w.heap.size w w' := refused_any [5, 0, 11, 16, 3, 0, 0, 0, 0, 0, 0, 0, 0, 0] 15 (by decide) (by kernel_rfl) w
theorem ref_h (w : World) : Calls Try.prog 20 #[.string ⟨#[0, 0, 0]⟩, .int .i64 15] w fun e w' => e = .returned (.bool true) ∧ Below w.heap.size w w' := refused_any [0, 0, 0] 15 (by decide) (by kernel_rfl) w
theorem f0d : f0.dig.length = 32 := rfl
theorem wpList_built1 {P : Program} {ops : Array Oper} {rest : List Oper} {o : Oper} {a : Act} {w : World} {Q : Exit → Act → World → Prop} (hg : o.guard = none) (t : TypeId) (i : Nat) (x : Operand) (ho : o.op = .build t #[(i, x)]) (v : Value) (hx : a.eval x = v) (cells : Array Value)
 (hb : P.built t [(i, v)] = some cells) (h : wpList P ops Q rest (a.put o.dst (.agg cells)) w) : wpList P ops Q (o :: rest) a w := by
 subst hx
 have hb' : P.built t ((#[(i, x)] : Array (Nat × Operand)).map fun (i, x) => (i, a.eval x)).toList = some cells := by simpa using hb
 exact wpList_build hg t _ ho (by rw [hb']; rfl) (by rw [hb']; exact h)
set_option maxRecDepth 100000 in
set_option maxHeartbeats 16000000 in
theorem known_walk (w : World) : Calls Try.prog 8 #[] w fun e w' => e = .returned (.bool true) ∧ Below w.heap.size w w' := by
 obtain ⟨n, hn⟩ : ∃ n, w.heap.size = n := ⟨_, rfl⟩
 have hq0 : AtL (w.alloc (.cells (msC z0 nilS).toArray 42)) n 42 (msC z0 nilS) := by rw [← hn]; exact AtL.new w _ _
 have hA := Lib.hid (atL_eq (hq0.row (putL (msC z0 nilS) 0 (msC f0 nilS))) (put_msg z0d f0d))
 have hB : Below n w (w.alloc (.cells (msC z0 nilS).toArray 42)) := (Below.refl _ _).alloc (Nat.le_of_eq hn.symm) _
 have hB2 := Lib.hid (below_row hB (g := n) (Nat.le_refl _) (putL (msC z0 nilS) 0 (msC f0 nilS)).toArray)
 have hz : Hid (n + 1 ≤ ((w.alloc (.cells (msC z0 nilS).toArray 42)).setRow n (putL (msC z0 nilS) 0 (msC f0 nilS)).toArray).heap.size) := Lib.hid (by rw [setRow_size, World.size_alloc]; omega)
 rw [show Below w.heap.size w = Below n w by rw [hn]]
 rw [← hn] at hq0
 replace hq0 := Lib.hid hq0
 replace hn := Lib.hid hn
 clear hB
 go_enter Try.func8, Try.ntmps8
 go_upto_region 2 with (first | (refine wpList_build_w rfl 42 _ rfl (msC f0 nilS).toArray (by kernel_rfl) ?_) | (rw [z0_lit]; refine wpList_store_part rfl 42 _ _ rfl w.heap.size 0 (msC f0 nilS) rfl rfl 42 (msC z0 nilS) hq0.out (size_msg f0d) (less_msg z0d f0d) (ms_one rfl) ?_))
 try simp only [Act.put]
 rw [hn.out]
 clear hq0
 generalize (w.alloc (.cells (msC z0 nilS).toArray 42)).setRow n (putL (msC z0 nilS) 0 (msC f0 nilS)).toArray = w1 at hA hB2 hz ⊢
 go_wp2_with fail
 go_loopw [2] (fun c wr => ∃ i : Nat, c = .int .i64 (i : Int) ∧ i ≤ 8 ∧ Hid (∃ x N c, AtL wr n 42 (msC f0 (.slice x N c)) ∧ OwnM (n + 1) wr (.slice x N c) (mk8 i)) ∧ Hid (Below n w wr) ∧ Hid (n + 1 ≤ wr.heap.size))
  (fun c _ => 8 - (RowKit.intOf c).toNat)
 case atStart => exact ⟨0, rfl, by omega, Lib.hid ⟨none, 0, 0, hA.out, OwnM.nil _ _⟩, hB2, hz⟩
 case round =>
  obtain ⟨wi, hwi⟩ : ∃ wi, wi = wr := ⟨_, rfl⟩
  subst hwi
  obtain ⟨i, rfl, hi, hMi, hBi, hzi⟩ := hrel
  obtain ⟨x, N, c, hAi, hOi⟩ := hMi.out
  replace hzi := hzi.out
  clear hMi hA hB2 hz
  by_cases h8 : i < 8
  · have cc := hAi.get (ms_marks f0d)
    have h8i : (i : Int) < 8 := by omega
    have hcv : (i : Int) % 256 = (i : Int) := by omega
    have hml : (mk8 i).length ≤ 1000 := by
     rw [mk8, List.length_map, List.length_range]
     omega
    have hgA := Lib.hid (AtL.new wi 65 (markC ((i : Int), kD i)))
    have hbA : Below wi.heap.size wi (wi.alloc (.cells (markC ((i : Int), kD i)).toArray 65)) := (Below.refl _ _).alloc (Nat.le_refl _) _
    have hAa := Lib.hid (hAi.on hbA)
    have hOa := Lib.hid (hOi.below hbA)
    have hBa := Lib.hid (hBi.out.trans (hbA.mono (Nat.le_trans (Nat.le_succ n) hzi)))
    have hza : Hid (n + 1 ≤ (wi.alloc (.cells (markC ((i : Int), kD i)).toArray 65)).heap.size) := Lib.hid (Nat.le_trans hzi hbA.size)
    have hdg := Lib.hid (show Try.prog.built 37 [(0, .int .u8 (i : Int))] = some ((kD i).map u8V).toArray by rw [built_dig, kD_cells (by omega)])
    have h8H := Lib.hid h8
    have hzi' := Lib.hid hzi
    clear hAi hOi hbA hBi h8 hi hzi
    go_wp2_with (first | (refine wpList_built1 rfl 37 0 _ rfl (.int .u8 (i : Int)) rfl ((kD i).map u8V).toArray hdg.out ?_) | (refine wpList_built2 rfl 65 0 1 _ _ rfl (.int .i64 (i : Int)) (.agg ((kD i).map u8V).toArray) rfl rfl _ (built_mark (i : Int) (kD i) rfl) ?_) | (refine wpList_mark rfl _ rfl (i : Int) (kD i) rfl rfl ?_) | (at_builtin; refine wpList_append_mark rfl _ _ rfl (n + 1) (.slice x N c) (mk8 i) rfl hOa.out hml wi.heap.size (i : Int) (kD i) rfl rfl hgA.out hza.out ?_))
    intro v2 w5 hO5 hb5
    obtain ⟨y2, N2, c2, rfl⟩ := hO5.slice
    have hA5 := hAa.out.keep hb5 (Nat.lt_succ_self n)
    have hB5 := hBa.out.trans (hb5.mono (Nat.le_succ n))
    have hz5 := Nat.le_trans hza.out hb5.size
    have c5 := hA5.get (ms_marks f0d)
    have f5 := hA5.free 47
    have hM6 : Hid (∃ x N c, AtL (w5.setCell ⟨n, 47, none⟩ (.slice y2 N2 c2)) n 42 (msC f0 (.slice x N c)) ∧ OwnM (n + 1) (w5.setCell ⟨n, 47, none⟩ (.slice y2 N2 c2)) (.slice x N c) (mk8 (i + 1))) := Lib.hid ⟨y2, N2, c2, atL_eq (hA5.put 47 _) (set_marks _ _ _ f0d), by rw [mk8_succ]; exact hO5.set (Nat.lt_succ_self n) 47 _⟩
    have hB6 := Lib.hid (hB5.setCell (p := ⟨n, 47, none⟩) (Nat.le_refl _) (.slice y2 N2 c2))
    have hz6 : Hid (n + 1 ≤ (w5.setCell ⟨n, 47, none⟩ (.slice y2 N2 c2)).heap.size) := Lib.hid (by
     have := hA5.inside
     simp [World.setCell]
     omega)
    clear hgA hAa hOa hBa hza hO5 hb5 hA5 hB5 hz5 hdg hzi' cc
    go_wp2_with fail
    go_roundw
    case rel => exact ⟨i + 1, by go_num, by have := h8H.out; omega, hM6, hB6, hz6⟩
    case measure => have := h8H.out; simp [RowKit.intOf]; omega
  obtain rfl : i = 8 := by omega
  clear hi h8
  have hAi := Lib.hid (show AtL wi n 42 (msC full (.slice x N c)) from hAi)
  have hff := full_facts
  simp only [Bool.and_eq_true, decide_eq_true_eq] at hff
  obtain ⟨⟨hfo, hfm⟩, h269⟩ := hff
  obtain ⟨hfok, hfw⟩ := ofB_ok hfo
  have hOi' : OwnM (n + 1) wi (.slice x N c) full.marks := hOi
  have hNl := marks_len hOi'.marks
  have e1 : encE full = 0 := by rw [encE, if_pos hfm]
  have hdec := dec_enc hfok hfw hfm
  have hE := Encode_any full x N c hfok hfw wi hOi'.marks
  rw [e1] at hE
  obtain ⟨F, hF⟩ : ∃ F, full = F := ⟨_, rfl⟩
  simp only [hF] at hAi hE hfok hdec h269 hOi' hNl
  obtain ⟨S, hS⟩ : ∃ S, encL F = S := ⟨_, rfl⟩
  rw [hS] at hE hdec h269
  have hfd := hfok.dig
  have hDa := Lib.hid (fun W => Decode_any S (by omega) W)
  simp only [hdec] at hDa
  replace hE := Lib.hid hE
  replace hOi' := Lib.hid hOi'
  have hzi' := Nat.le_trans (Nat.le_succ n) hzi
  clear hOi hfo hfm e1 hdec hfw hS hF
  have hld := Lib.hid (fun j v (hv : (msC F (.slice x N c))[j]? = some v) => (show wi.cell? ⟨n, 0 + j, none⟩ = some v by rw [Nat.zero_add]; exact hAi.out.get hv))
  go_wp2_with (refine wpList_load_part rfl 42 _ rfl n 0 rfl (msC F (.slice x N c)) hld.out _ Try.underlying42 rfl (size_msg hfd) ?_)
  refine hE.out.mono ?_
  rintro e w2 ⟨rfl, hb2⟩
  have hA2 := Lib.hid (hAi.out.on hb2)
  have hO2 := Lib.hid (hOi'.out.below hb2)
  have hB2 := Lib.hid (hBi.out.trans (hb2.mono hzi'))
  have hz2 := Nat.le_trans hzi' hb2.size
  clear hE hld hAi hOi' hBi hb2 hzi hzi'
  have hD := Lib.hid (hDa.out w2)
  go_wp2_with fail
  refine hD.out.mono ?_
  rintro e w3 ⟨xm, Nm, cm, rfl, hNm, hb3⟩
  have hB3 := hB2.out.trans (hb3.mono hz2)
  have hz3 := Nat.le_trans hz2 hb3.size
  have hA3 := hA2.out.on hb3
  have hO3 := hO2.out.below hb3
  have hNo3 := (OwnM.ofNew hNm).less (Nat.zero_le _)
  obtain ⟨q, hq⟩ : ∃ q, w3.heap.size = q := ⟨_, rfl⟩
  have hnq : n ≠ q := by have := hA3.inside; omega
  have hq0 : AtL (w3.alloc (.cells (msC z0 nilS).toArray 42)) q 42 (msC z0 nilS) := by rw [← hq]; exact AtL.new w3 _ _
  have hb4 : Below w3.heap.size w3 (w3.alloc (.cells (msC z0 nilS).toArray 42)) := (Below.refl _ _).alloc (Nat.le_refl _) _
  have hM4 := Lib.hid (atL_eq (hq0.row (putL (msC z0 nilS) 0 (msC F (.slice xm Nm cm)))) (put_msg z0d hfd))
  have hA4 := Lib.hid ((hA3.on hb4).rowFar (b := q) hnq (putL (msC z0 nilS) 0 (msC F (.slice xm Nm cm))).toArray)
  have hO4 := Lib.hid ((hO3.below hb4).rowMsg hq0 (putL (msC z0 nilS) 0 (msC F (.slice xm Nm cm))).toArray)
  have hNo4 := Lib.hid ((hNo3.below hb4).rowMsg hq0 (putL (msC z0 nilS) 0 (msC F (.slice xm Nm cm))).toArray)
  have hB4 := Lib.hid (below_row (hB3.trans (hb4.mono hz3)) (g := q) (by omega) (putL (msC z0 nilS) 0 (msC F (.slice xm Nm cm))).toArray)
  have hz4 : n ≤ ((w3.alloc (.cells (msC z0 nilS).toArray 42)).setRow q (putL (msC z0 nilS) 0 (msC F (.slice xm Nm cm))).toArray).heap.size := by rw [setRow_size, World.size_alloc]; omega
  replace hz4 := Lib.hid hz4
  rw [← hq] at hq0
  replace hq0 := Lib.hid hq0
  replace hq := Lib.hid hq
  clear hD hDa hNm hb3 hA3 hO3 hNo3 hB3 hz3 hb4 hA2 hO2 hB2 hz2 hnq
  go_upto_region 8 with (rw [z0_lit]; refine wpList_store_part rfl 42 _ _ rfl w3.heap.size 0 (msC F (.slice xm Nm cm)) rfl rfl 42 (msC z0 nilS) hq0.out (size_msg hfd) (less_msg z0d hfd) (ms_one rfl) ?_)
  try simp only [Act.put]
  rw [hq.out]
  replace hz4 := hz4.out
  clear hq0 hq
  generalize (w3.alloc (.cells (msC z0 nilS).toArray 42)).setRow q (putL (msC z0 nilS) 0 (msC F (.slice xm Nm cm))).toArray = w4 at hM4 hA4 hO4 hNo4 hB4 hz4 ⊢
  have hSm := Lib.hid (same_yes (a := F) rfl (.slice xm Nm cm) (.slice x N c) hfok w4 hNo4.out.marks (hO4.out.less (Nat.zero_le _)).marks)
  clear hNo4 hO4
  refine wp_region_list ?_
  (refine BigFrame.wpList_want rfl ?_; intro K hK; replace hK := Lib.hid hK; go_wp2_with fail; refine hK.out _ _ ?_; clear hK K) -- 43
  (refine BigFrame.wpList_want rfl ?_; intro K hK; replace hK := Lib.hid hK; go_wp2_with fail; refine hK.out _ _ ?_; clear hK K) -- 44
  (refine BigFrame.wpList_want rfl ?_; intro K hK; replace hK := Lib.hid hK; go_wp2_with fail; refine hK.out _ _ ?_; clear hK K) -- 45
  (refine BigFrame.wpList_want rfl ?_; intro K hK; replace hK := Lib.hid hK; go_wp2_with fail; refine hK.out _ _ ?_; clear hK K) -- 46
  (refine BigFrame.wpList_want rfl ?_; intro K hK; replace hK := Lib.hid hK; go_wp2_with fail; refine hK.out _ _ ?_; clear hK K) -- 47
  (refine BigFrame.wpList_want rfl ?_; intro K hK; replace hK := Lib.hid hK; go_wp2_with fail; refine hK.out _ _ ?_; clear hK K) -- 48
  (refine BigFrame.wpList_want rfl ?_; intro K hK; replace hK := Lib.hid hK; go_wp2_with fail; refine hK.out _ _ ?_; clear hK K) -- 49
  (refine BigFrame.wpList_want rfl ?_; intro K hK; replace hK := Lib.hid hK; go_wp2_with fail; refine hK.out _ _ ?_; clear hK K) -- 50
  (refine BigFrame.wpList_want rfl ?_; intro K hK; replace hK := Lib.hid hK; go_wp2_with fail; refine hK.out _ _ ?_; clear hK K) -- 51
  (refine BigFrame.wpList_want rfl ?_; intro K hK; replace hK := Lib.hid hK; go_wp2_with fail; refine hK.out _ _ ?_; clear hK K) -- 52
  (refine BigFrame.wpList_want rfl ?_; intro K hK; replace hK := Lib.hid hK; go_wp2_with fail; refine hK.out _ _ ?_; clear hK K) -- 53
  (refine BigFrame.wpList_want rfl ?_; intro K hK; replace hK := Lib.hid hK; go_wp2_with fail; refine hK.out _ _ ?_; clear hK K) -- 54
  refine wpList_load_part_w rfl 42 _ rfl q 0 rfl (msC F (.slice xm Nm cm)) (fun j v hv => by rw [Nat.zero_add]; exact hM4.out.get hv) _ Try.underlying42 rfl (size_msg hfd) ?_
  go_simp
  refine wpList_load_part_w rfl 42 _ rfl n 0 rfl (msC F (.slice x N c)) (fun j v hv => by rw [Nat.zero_add]; exact hA4.out.get hv) _ Try.underlying42 rfl (size_msg hfd) ?_
  go_simp
  (refine BigFrame.wpList_want rfl ?_; intro K hK; replace hK := Lib.hid hK; go_wp2_with fail)
  refine hSm.out.mono ?_
  rintro e w5 ⟨rfl, hb5⟩
  have hB5 := Lib.hid (hB4.out.trans (hb5.mono hz4))
  have hz5 := Nat.le_trans hz4 hb5.size
  clear hM4 hA4 hB4 hz4 hb5 hSm
  go_wp2_with fail
  refine hK.out _ _ ?_
  clear hK K
  (refine BigFrame.wpList_want rfl ?_; intro K hK; replace hK := Lib.hid hK; go_wp2_with fail; refine hK.out _ _ ?_; clear hK K) -- 58
  (refine BigFrame.wpList_want rfl ?_; intro K hK; replace hK := Lib.hid hK; go_wp2_with fail; refine hK.out _ _ ?_; clear hK K) -- 7
  go_upto_region 9 with fail
  clear hfok hfd h269 hNl
  refine wp_region_list ?_
  refine wpList_build_w rfl 42 _ rfl (msC k1 nilS).toArray (by kernel_rfl) ?_
  go_simp
  refine wpList_build_w rfl 42 _ rfl (msC k2 nilS).toArray (by kernel_rfl) ?_
  go_simp
  refine wpList_build_w rfl 40 _ rfl (ocC k3.oc).toArray (by kernel_rfl) ?_
  go_simp
  refine wpList_build_w rfl 42 _ rfl (msC k3 nilS).toArray (by kernel_rfl) ?_
  go_simp
  refine wpList_build_w rfl 33 _ rfl ([.int .i64 0, .int .i64 1048576]).toArray (by kernel_rfl) ?_
  go_simp
  refine wpList_build_w rfl 35 _ rfl (rqC k4.rq).toArray (by kernel_rfl) ?_
  go_simp
  refine wpList_build_w rfl 42 _ rfl (msC k4 nilS).toArray (by kernel_rfl) ?_
  go_simp
  refine wpList_mays rfl _ _ _ _ rfl rfl rfl rfl rfl ?_
  go_simp
  (refine BigFrame.wpList_want rfl ?_; intro K hK; replace hK := Lib.hid hK; go_wp2_with fail; refine hK.out _ _ ?_; clear hK K) -- 8
  have hm6 := AtL.new w5 42 mayC
  have hb6 : Below w5.heap.size w5 (w5.alloc (.cells mayC.toArray 42)) := (Below.refl _ _).alloc (Nat.le_refl _) _
  have hB6 := hB5.out.trans (hb6.mono hz5)
  have hz6 := Nat.le_trans hz5 hb6.size
  obtain ⟨gm, hgm⟩ : ∃ g, w5.heap.size = g := ⟨_, rfl⟩
  simp only [hgm] at hm6 ⊢
  generalize w5.alloc (.cells mayC.toArray 42) = w6 at hm6 hB6 hz6 ⊢
  replace hm6 := Lib.hid hm6
  replace hB6 := Lib.hid hB6
  clear hb6 hgm hB5 hz5
  go_upto_region 10 with fail
  obtain ⟨g, hg⟩ : ∃ g, w6.heap.size = g := ⟨_, rfl⟩
  have hg1 : (w6.alloc (.cells (marksC [zM, zM]).toArray 65)).heap.size = g + 1 := by rw [World.size_alloc, hg]
  have hg2 : ((w6.alloc (.cells (marksC [zM, zM]).toArray 65)).alloc (.cells (markC (8, zM.2)).toArray 65)).heap.size = g + 2 := by rw [World.size_alloc, World.size_alloc, hg]
  replace hg := Lib.hid hg
  replace hg1 := Lib.hid hg1
  replace hg2 := Lib.hid hg2
  refine wp_region_list ?_
  refine wpList_build_w rfl 42 _ rfl (msC c0 nilS).toArray (by kernel_rfl) ?_
  go_simp
  refine wpList_build_w rfl 42 _ rfl (msC c1 nilS).toArray (by kernel_rfl) ?_
  go_simp
  refine wpList_build_w rfl 42 _ rfl (msC c2 nilS).toArray (by kernel_rfl) ?_
  go_simp
  refine wpList_build_w rfl 42 _ rfl (msC c3 nilS).toArray (by kernel_rfl) ?_
  go_simp
  refine wpList_build_w rfl 42 _ rfl (msC c4 nilS).toArray (by kernel_rfl) ?_
  go_simp
  refine wpList_build_w rfl 42 _ rfl (msC c5 nilS).toArray (by kernel_rfl) ?_
  go_simp
  refine wpList_build_w rfl 42 _ rfl (msC c6 nilS).toArray (by kernel_rfl) ?_
  go_simp
  refine wpList_build_w rfl 42 _ rfl (msC c7 nilS).toArray (by kernel_rfl) ?_
  go_simp
  refine wpList_build_w rfl 42 _ rfl (msC c8 nilS).toArray (by kernel_rfl) ?_
  go_simp
  refine wpList_build_w rfl 42 _ rfl (msC c9 nilS).toArray (by kernel_rfl) ?_
  go_simp
  refine wpList_build_w rfl 42 _ rfl (msC c10 nilS).toArray (by kernel_rfl) ?_
  go_simp
  refine wpList_build_w rfl 65 _ rfl (markC zM).toArray (by kernel_rfl) ?_
  go_simp
  refine wpList_build_w rfl 65 _ rfl (markC zM).toArray (by kernel_rfl) ?_
  go_simp
  refine wpList_mark2 rfl _ _ rfl zM zM rfl rfl rfl rfl ?_
  go_simp
  rw [hg.out]
  refine wpList_build_w rfl 42 _ rfl (msC c11 (.slice (some ⟨g, 0, none⟩) 2 2)).toArray (by kernel_rfl) ?_
  go_simp
  refine wpList_build_w rfl 65 _ rfl (markC (8, zM.2)).toArray (by kernel_rfl) ?_
  go_simp
  refine wpList_mark rfl _ rfl 8 zM.2 rfl rfl ?_
  go_simp
  (try rw [hg1.out])
  (try rw [hg.out])
  refine wpList_build_w rfl 42 _ rfl (msC c12 (.slice (some ⟨g + 1, 0, none⟩) 1 1)).toArray (by kernel_rfl) ?_
  go_simp
  refine wpList_build_w rfl 65 _ rfl (markC (3, zM.2)).toArray (by kernel_rfl) ?_
  go_simp
  refine wpList_build_w rfl 65 _ rfl (markC (2, zM.2)).toArray (by kernel_rfl) ?_
  go_simp
  refine wpList_mark2 rfl _ _ rfl (3, zM.2) (2, zM.2) rfl rfl rfl rfl ?_
  go_simp
  (try rw [hg2.out])
  (try rw [hg.out])
  refine wpList_build_w rfl 42 _ rfl (msC c13 (.slice (some ⟨g + 2, 0, none⟩) 2 2)).toArray (by kernel_rfl) ?_
  go_simp
  refine wpList_build_w rfl 42 _ rfl (msC c14 nilS).toArray (by kernel_rfl) ?_
  go_simp
  refine wpList_build_w rfl 40 _ rfl (ocC c15.oc).toArray (by kernel_rfl) ?_
  go_simp
  refine wpList_build_w rfl 42 _ rfl (msC c15 nilS).toArray (by kernel_rfl) ?_
  go_simp
  refine wpList_build_w rfl 40 _ rfl (ocC c16.oc).toArray (by kernel_rfl) ?_
  go_simp
  refine wpList_build_w rfl 42 _ rfl (msC c16 nilS).toArray (by kernel_rfl) ?_
  go_simp
  refine wpList_build_w rfl 40 _ rfl (ocC c17.oc).toArray (by kernel_rfl) ?_
  go_simp
  refine wpList_build_w rfl 42 _ rfl (msC c17 nilS).toArray (by kernel_rfl) ?_
  go_simp
  refine wpList_build_w rfl 40 _ rfl (ocC c18.oc).toArray (by kernel_rfl) ?_
  go_simp
  refine wpList_build_w rfl 42 _ rfl (msC c18 nilS).toArray (by kernel_rfl) ?_
  go_simp
  refine wpList_build_w rfl 42 _ rfl (msC c19 nilS).toArray (by kernel_rfl) ?_
  go_simp
  refine wpList_build_w rfl 35 _ rfl (rqC c20.rq).toArray (by kernel_rfl) ?_
  go_simp
  refine wpList_build_w rfl 42 _ rfl (msC c20 nilS).toArray (by kernel_rfl) ?_
  go_simp
  refine wpList_build_w rfl 35 _ rfl (rqC c21.rq).toArray (by kernel_rfl) ?_
  go_simp
  refine wpList_build_w rfl 42 _ rfl (msC c21 nilS).toArray (by kernel_rfl) ?_
  go_simp
  refine wpList_bads rfl g _ _ _ _ _ _ _ _ _ _ _ _ _ _ _ _ _ _ _ _ _ _ rfl rfl rfl rfl rfl rfl rfl rfl rfl rfl rfl rfl rfl rfl rfl rfl rfl rfl rfl rfl rfl rfl rfl ?_
  go_simp
  (refine BigFrame.wpList_want rfl ?_; intro K hK; replace hK := Lib.hid hK; go_wp2_with fail; refine hK.out _ _ ?_; clear hK K) -- 9
  simp only [hg.out]
  have hbw : Below w6.heap.size w6 ((((w6.alloc (.cells (marksC [zM, zM]).toArray 65)).alloc (.cells (markC (8, zM.2)).toArray 65)).alloc (.cells (marksC [(3, zM.2), (2, zM.2)]).toArray 65)).alloc (.cells (badC g).toArray 42)) := ((((Below.refl _ _).alloc (Nat.le_refl _) _).alloc (by simp only [World.size_alloc]; omega) _).alloc (by simp only [World.size_alloc]; omega) _).alloc (by simp only [World.size_alloc]; omega) _
  have hm7 := Lib.hid (hm6.out.on hbw)
  have hB7 := Lib.hid (hB6.out.trans (hbw.mono hz6))
  have hz7 := Nat.le_trans hz6 hbw.size
  have a0 := (((AtL.new w6 65 (marksC [zM, zM])).alloc (.cells (markC (8, zM.2)).toArray 65)).alloc (.cells (marksC [(3, zM.2), (2, zM.2)]).toArray 65)).alloc (.cells (badC g).toArray 42)
  have a1 := ((AtL.new (w6.alloc (.cells (marksC [zM, zM]).toArray 65)) 65 (markC (8, zM.2))).alloc (.cells (marksC [(3, zM.2), (2, zM.2)]).toArray 65)).alloc (.cells (badC g).toArray 42)
  have a2 := (AtL.new ((w6.alloc (.cells (marksC [zM, zM]).toArray 65)).alloc (.cells (markC (8, zM.2)).toArray 65)) 65 (marksC [(3, zM.2), (2, zM.2)])).alloc (.cells (badC g).toArray 42)
  have a3 := AtL.new (((w6.alloc (.cells (marksC [zM, zM]).toArray 65)).alloc (.cells (markC (8, zM.2)).toArray 65)).alloc (.cells (marksC [(3, zM.2), (2, zM.2)]).toArray 65)) 42 (badC g)
  have hg3 : (((w6.alloc (.cells (marksC [zM, zM]).toArray 65)).alloc (.cells (markC (8, zM.2)).toArray 65)).alloc (.cells (marksC [(3, zM.2), (2, zM.2)]).toArray 65)).heap.size = g + 3 := by rw [World.size_alloc, hg2.out]
  rw [hg.out] at a0
  rw [hg1.out] at a1
  rw [hg2.out] at a2
  rw [hg3] at a3
  have a1' := atL_eq a1 (show markC (8, zM.2) = marksC c12.marks by simp [marksC, c12])
  generalize (((w6.alloc (.cells (marksC [zM, zM]).toArray 65)).alloc (.cells (markC (8, zM.2)).toArray 65)).alloc (.cells (marksC [(3, zM.2), (2, zM.2)]).toArray 65)).alloc (.cells (badC g).toArray 42) = w7 at hm7 hB7 hz7 a0 a1' a2 a3 ⊢
  replace a0 := Lib.hid (show AtL w7 g 65 (marksC c11.marks) from a0)
  replace a1' := Lib.hid a1'
  replace a2 := Lib.hid (show AtL w7 (g + 2) 65 (marksC c13.marks) from a2)
  replace a3 := Lib.hid a3
  clear a1 hbw hm6 hB6 hz6 hg hg1 hg2 hg3
  obtain ⟨gb, hgb⟩ : ∃ gb, g + 3 = gb := ⟨_, rfl⟩
  simp only [show g + 1 + 1 + 1 = g + 3 from rfl, hgb] at a3 ⊢
  clear hgb
  go_wp2_with fail
  go_loopw [10] (fun c wr => ∃ i : Nat, c = .int .i64 (i : Int) ∧ i ≤ 4 ∧ Hid (Below w7.heap.size w7 wr))
   (fun c _ => 4 - (RowKit.intOf c).toNat)
  case atStart => exact ⟨0, rfl, by omega, Lib.hid (.refl _ _)⟩
  case round =>
   obtain ⟨wj, hwj⟩ : ∃ wj, wj = wr := ⟨_, rfl⟩
   subst hwj
   obtain ⟨i, rfl, hi, hBl⟩ := hrel
   have hBj := Lib.hid (hB7.out.trans (hBl.out.mono hz7))
   have hzj : n ≤ wj.heap.size := Nat.le_trans hz7 hBl.out.size
   by_cases h4 : i < 4
   · obtain ⟨m, hm⟩ : ∃ m, mays[i]? = some m := ⟨_, List.getElem?_eq_getElem (by exact h4)⟩
     obtain ⟨hok, hwd, hmy, hmk⟩ := may_facts' hm
     have hmd := hok.dig
     have hmj := hm7.out.on hBl.out
     have h4i : (i : Int) < 4 := by omega
     have e1 : encE m = 0 := by rw [encE, if_pos hmy]
     have hdec := dec_enc hok hwd hmy
     have hmax := enc_max hok hmy hwd
     have hE := Encode_any m none 0 0 hok hwd wj (by rw [hmk]; exact RowB.nil _ _ _)
     rw [e1] at hE
     obtain ⟨t, ht⟩ : ∃ t, encL m = t := ⟨_, rfl⟩
     rw [ht] at hE hdec hmax
     have hDa := Lib.hid (fun W => Decode_any t (by omega) W)
     simp only [hdec] at hDa
     have hld := Lib.hid (fun j v (hv : (msC m nilS)[j]? = some v) => may_cells hmj hm hv)
     replace hE := Lib.hid hE
     replace hm := Lib.hid hm
     replace hmk := Lib.hid hmk
     have h4H := Lib.hid h4
     clear hmy e1 hdec ht hmax hwd hmj h4 hi
     go_wp2_with (refine wpList_load_part rfl 42 _ rfl gm (i * 53) rfl (msC m nilS) hld.out _ Try.underlying42 rfl (size_msg hmd) ?_)
     refine hE.out.mono ?_
     rintro e w8 ⟨rfl, hb8⟩
     have hl8 := Lib.hid (hBl.out.trans (hb8.mono hBl.out.size))
     have hz8 := Nat.le_trans hzj hb8.size
     clear hE hld hb8 hBl hBj hzj
     have hD := Lib.hid (hDa.out w8)
     go_wp2_with fail
     refine hD.out.mono ?_
     rintro e w9 ⟨xn, Nn, cn, rfl, hNn, hb9⟩
     have hl9 := hl8.out.trans (hb9.mono hl8.out.size)
     have hz9 := Nat.le_trans hz8 hb9.size
     have hNo9 := (OwnM.ofNew hNn).less (Nat.zero_le _)
     obtain ⟨r, hr⟩ : ∃ r, w9.heap.size = r := ⟨_, rfl⟩
     have hr0 : AtL (w9.alloc (.cells (msC z0 nilS).toArray 42)) r 42 (msC z0 nilS) := by rw [← hr]; exact AtL.new w9 _ _
     have hb10 : Below w9.heap.size w9 (w9.alloc (.cells (msC z0 nilS).toArray 42)) := (Below.refl _ _).alloc (Nat.le_refl _) _
     have hM10 := Lib.hid (atL_eq (hr0.row (putL (msC z0 nilS) 0 (msC m (.slice xn Nn cn)))) (put_msg z0d hmd))
     have hNo10 := Lib.hid ((hNo9.below hb10).rowMsg hr0 (putL (msC z0 nilS) 0 (msC m (.slice xn Nn cn))).toArray)
     have hl10 := Lib.hid (below_row (hl9.trans (hb10.mono hl9.size)) (g := r) (by rw [← hr]; exact hl9.size) (putL (msC z0 nilS) 0 (msC m (.slice xn Nn cn))).toArray)
     have hz10 : n ≤ ((w9.alloc (.cells (msC z0 nilS).toArray 42)).setRow r (putL (msC z0 nilS) 0 (msC m (.slice xn Nn cn))).toArray).heap.size := by rw [setRow_size, World.size_alloc]; omega
     replace hz10 := Lib.hid hz10
     rw [← hr] at hr0
     replace hr0 := Lib.hid hr0
     replace hr := Lib.hid hr
     clear hD hDa hNn hb9 hl9 hz9 hNo9 hb10 hl8 hz8
     go_upto_region 16 with (rw [z0_lit]; refine wpList_store_part rfl 42 _ _ rfl w9.heap.size 0 (msC m (.slice xn Nn cn)) rfl rfl 42 (msC z0 nilS) hr0.out (size_msg hmd) (less_msg z0d hmd) (ms_one rfl) ?_)
     try simp only [Act.put]
     rw [hr.out]
     replace hz10 := hz10.out
     clear hr0 hr
     generalize (w9.alloc (.cells (msC z0 nilS).toArray 42)).setRow r (putL (msC z0 nilS) 0 (msC m (.slice xn Nn cn))).toArray = w10 at hM10 hNo10 hl10 hz10 ⊢
     have cS := fun d os => Calls.regrown_of (same_yes (a := m) rfl (.slice xn Nn cn) nilS hok (grow (redrawn w10 d) os) (RowB.more (RowB.keep hNo10.out.marks (below_regrown w10 d os) (Nat.le_refl _)) (below_regrown w10 d os).size) (by rw [hmk.out]; exact RowB.nil _ _ _))
     have hl1 := Lib.hid (show ∀ W, (∃ q : Regrown, W = grow (redrawn w10 q.d) q.os) → ∀ j u, (msC m (.slice xn Nn cn))[j]? = some u → W.cell? ⟨r, 0 + j, none⟩ = some u by
      rintro W ⟨q, rfl⟩ j u hu
      rw [Nat.zero_add]
      exact cell_regrown (hM10.out.get hu) q.d q.os)
     have hl2 := Lib.hid (show ∀ W, (∃ q : Regrown, W = grow (redrawn w10 q.d) q.os) → ∀ j u, (msC m nilS)[j]? = some u → W.cell? ⟨gm, i * 53 + j, none⟩ = some u by
      rintro W ⟨q, rfl⟩ j u hu
      exact cell_regrown (may_cells (hm7.out.on hl10.out) hm.out hu) q.d q.os)
     have hsz := size_msg (m := m) (v := nilS) hmd
     have hsz2 := size_msg (m := m) (v := .slice xn Nn cn) hmd
     clear hM10 hNo10
     refine wp_region_quiet_below (by kernel_rfl) (by kernel_rfl) ?_
     repeat (first | (refine wpQuiet_load_part_w rfl 42 _ rfl r 0 rfl (msC m (.slice xn Nn cn)) hl1.out _ Try.underlying42 rfl hsz2 ?_; go_simp) | (refine wpQuiet_load_part_w rfl 42 _ rfl gm (i * 53) rfl (msC m nilS) hl2.out _ Try.underlying42 rfl hsz ?_; go_simp) | go_big_quiet_step (first | with_reducible exact cS _ _))
     refine wpQuiet_nil ?_
     first | (rintro w11 ⟨⟨d, os⟩, rfl⟩) | (intro pq; obtain ⟨d, os⟩ := pq)
     have hl11 := Lib.hid (hl10.out.trans ((below_regrown w10 d os).mono hl10.out.size))
     dsimp only
     clear hl1 hl2 hl10 cS hz10
     generalize grow (redrawn w10 d) os = w11 at hl11 ⊢
     go_wp2_with fail
     go_roundw
     case rel => exact ⟨i + 1, by go_num, by have := h4H.out; omega, hl11⟩
     case measure => have := h4H.out; simp [RowKit.intOf]; omega
   obtain rfl : i = 4 := by omega
   have b0 := a0.out.on hBl.out
   have b1 := a1'.out.on hBl.out
   have b2 := a2.out.on hBl.out
   have b3 := Lib.hid (a3.out.on hBl.out)
   have hbm := Lib.hid (fun i p (hp : (bads.zip (badV g))[i]? = some p) W (hb : Below wj.heap.size wj W) => bad_marks (b0.on hb) (b1.on hb) (b2.on hb) hp)
   clear hi h4 a0 a1' a2 a3 b0 b1 b2 hm7 hB7 hz7 hBl
   go_wp2_with fail
   go_loopw [15] (fun c wr => ∃ i : Nat, c = .int .i64 (i : Int) ∧ i ≤ 22 ∧ Hid (Below wj.heap.size wj wr))
    (fun c _ => 22 - (RowKit.intOf c).toNat)
   case atStart => exact ⟨0, rfl, by omega, Lib.hid (.refl _ _)⟩
   case round =>
    obtain ⟨wk, hwk⟩ : ∃ wk, wk = wr := ⟨_, rfl⟩
    subst hwk
    obtain ⟨i, rfl, hi, hBl⟩ := hrel
    have hBk := Lib.hid (hBj.out.trans (hBl.out.mono hzj))
    have hzk : n ≤ wk.heap.size := Nat.le_trans hzj hBl.out.size
    by_cases h22 : i < 22
    · obtain ⟨⟨m, v⟩, hp⟩ : ∃ p, (bads.zip (badV g))[i]? = some p := ⟨_, List.getElem?_eq_getElem (by exact h22)⟩
      obtain ⟨hok, hwd, hmy, xb, Nb, cb, hv, hmb⟩ := hbm.out i _ hp wk hBl.out
      obtain rfl : v = .slice xb Nb cb := hv
      replace hok : m.ok := hok
      replace hwd : m.wide := hwd
      replace hmy : mayB m = false := hmy
      replace hmb : MarksAt wk.heap.size wk (.slice xb Nb cb) m.marks := hmb
      have hmd := hok.dig
      have hbj := b3.out.on hBl.out
      have h22i : (i : Int) < 22 := by omega
      have e1 : encE m = 15 := by rw [encE, hmy]; rfl
      have e2 : encL m = [] := by rw [encL, hmy]; rfl
      have hE := Encode_any m xb Nb cb hok hwd wk hmb
      rw [e1, e2] at hE
      replace hE := Lib.hid (show Calls Try.prog 17 #[.agg (msC m (.slice xb Nb cb)).toArray] wk fun e w' => e = .returned (.tuple #[.string ⟨#[]⟩, .int .i64 15]) ∧ Below wk.heap.size wk w' from hE)
      have hld := Lib.hid (fun j u (hu : (msC m (.slice xb Nb cb))[j]? = some u) => bad_cells hbj hp hu)
      have h22H := Lib.hid h22
      clear hmy e1 e2 hwd hmb hbj hp hok h22 hi
      go_wp2_with (refine wpList_load_part rfl 42 _ rfl gb (i * 53) rfl (msC m (.slice xb Nb cb)) hld.out _ Try.underlying42 rfl (size_msg hmd) ?_)
      refine hE.out.mono ?_
      rintro e w8 ⟨rfl, hb8⟩
      have hl8 := Lib.hid (hBl.out.trans (hb8.mono hBl.out.size))
      clear hE hld hb8 hBl hBk hzk
      go_wp2_with fail
      go_roundw
      case rel =>
       refine ⟨_, _, _, _, _, _, _, _, _, _, _, _, _, _, _, _, _, _, _, _, _, _, _, _, ⟨i + 1, ?_, by have := h22H.out; omega, hl8⟩, rfl⟩
       go_num
      case measure => have := h22H.out; simp [RowKit.intOf]; omega
    obtain rfl : i = 22 := by omega
    clear hi h22 hbm b3 hBl hBj hzj
    go_wp2_with fail
    refine (works_any _).mono ?_
    rintro e w8 ⟨rfl, hb8⟩
    have hB8 := Lib.hid (hBk.out.trans (hb8.mono hzk))
    have hz8 := Nat.le_trans hzk hb8.size
    clear hb8 hBk hzk
    go_wp2_with fail
    refine (ref_d _).mono ?_
    rintro e w9 ⟨rfl, hb9⟩
    have hB9 := Lib.hid (hB8.out.trans (hb9.mono hz8))
    have hz9 := Nat.le_trans hz8 hb9.size
    clear hb9 hB8 hz8
    go_wp2_with fail
    refine (ref_e _).mono ?_
    rintro e w10 ⟨rfl, hb10⟩
    have hB10 := Lib.hid (hB9.out.trans (hb10.mono hz9))
    have hz10 := Nat.le_trans hz9 hb10.size
    clear hb10 hB9 hz9
    go_wp2_with fail
    refine (ref_f _).mono ?_
    rintro e w11 ⟨rfl, hb11⟩
    have hB11 := Lib.hid (hB10.out.trans (hb11.mono hz10))
    have hz11 := Nat.le_trans hz10 hb11.size
    clear hb11 hB10 hz10
    go_wp2_with fail
    refine (ref_g _).mono ?_
    rintro e w12 ⟨rfl, hb12⟩
    have hB12 := Lib.hid (hB11.out.trans (hb12.mono hz11))
    have hz12 := Nat.le_trans hz11 hb12.size
    clear hb12 hB11 hz11
    go_wp2_with fail
    refine (ref_h _).mono ?_
    rintro e w13 ⟨rfl, hb13⟩
    have hB13 := Lib.hid (hB12.out.trans (hb13.mono hz12))
    have hz13 := Nat.le_trans hz12 hb13.size
    clear hb13 hB12 hz12
    go_wp2
    go_ret
    exact ⟨rfl, hB13.out⟩
end Go.Proofs.Ytpefdmkfmcjfnaa.Df

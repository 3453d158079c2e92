import Derived.Test.YtpefdmkfmcjfnaaPkMsMath

namespace Go.Proofs.Ytpefdmkfmcjfnaa.Ms
open Go.RowKit Go.Sort Go.Proofs.Ytpefdmkfmcjfnaa.Mem Go.Proofs.Ytpefdmkfmcjfnaa.Route Go.Proofs.Ytpefdmkfmcjfnaa.Oct Go.Proofs.Ytpefdmkfmcjfnaa.Part
set_option linter.unusedVariables false
def MarksAt (B : Nat) (W : World) (v : Value) (l : List (Int × Bs)) : Prop := RowB B W v 33 (l.map markC)
theorem dig_size {d : Bs} (h : d.length = 32) : (Try.prog.info? 37).map (·.size) = some (d.map u8V).length := by rw [List.length_map, h]; kernel_rfl
theorem mark_size {p : Int × Bs} (h : p.2.length = 32) : (Try.prog.info? 65).map (·.size) = some (markC p).length := by rw [markC, List.length_cons, List.length_map, h]; kernel_rfl
theorem rq_size (r : Rq) : (Try.prog.info? 35).map (·.size) = some (rqC r).length := by kernel_rfl
theorem oc_size (o : Oc) : (Try.prog.info? 40).map (·.size) = some (ocC o).length := by kernel_rfl
set_option maxRecDepth 100000 in
set_option maxHeartbeats 8000000 in
theorem same_any (a b : Ms) (va vb : Value) (ha : a.ok) (hb : b.ok) (w : World)
 (hm : ∀ W, Below w.heap.size w W → Calls Try.prog 31 #[va, vb] W fun e w' => e = .returned (.bool (a.marks == b.marks)) ∧ Below W.heap.size W w') :
 Calls Try.prog 19 #[.agg (msC a va).toArray, .agg (msC b vb).toArray] w fun e w' => e = .returned (.bool (sameB a b)) ∧ Below w.heap.size w w' := by
 have hA : AtL ((w.alloc (.cells (msC a va).toArray 42)).alloc (.cells (msC b vb).toArray 42)) w.heap.size 42 (msC a va) := (AtL.new w _ _).alloc _
 have hB : AtL ((w.alloc (.cells (msC a va).toArray 42)).alloc (.cells (msC b vb).toArray 42)) (w.heap.size + 1) 42 (msC b vb) := by have := AtL.new (w.alloc (.cells (msC a va).toArray 42)) 42 (msC b vb); rwa [World.size_alloc] at this
 have hB0 : Below w.heap.size w ((w.alloc (.cells (msC a va).toArray 42)).alloc (.cells (msC b vb).toArray 42)) := ((Below.refl _ _).alloc (Nat.le_refl _) _).alloc (by simp) _
 have hm1 := Lib.hid (hm _ hB0)
 have eR := Lib.hid (eqRq a.rq b.rq)
 have eD := Lib.hid (eqDig a.dig b.dig ha.dig hb.dig)
 have eO := Lib.hid (eqOc a.oc b.oc)
 go_enter Try.func19, Try.ntmps19
 go_upto_region 1 with fail
 replace hB0 := Lib.hid hB0
 obtain ⟨n, hn⟩ : ∃ n, w.heap.size = n := ⟨_, rfl⟩
 obtain ⟨n1, hn1⟩ : ∃ n1, n + 1 = n1 := ⟨_, rfl⟩
 simp only [hn, hn1] at hA hB ⊢
 generalize ((w.alloc (.cells (msC a va).toArray 42)).alloc (.cells (msC b vb).toArray 42)) = W2 at hA hB hB0 hm1 ⊢
 replace hn := Lib.hid hn
 replace hn1 := Lib.hid hn1
 have a_kind := hA.get ms_kind
 have a_rnd := hA.get ms_rnd
 have a_car := hA.get ms_car
 have a_req := hA.get ms_req
 have a_rsv := hA.get ms_rsv
 have a_marks := hA.get (ms_marks ha.dig)
 have a_bid := hA.get (ms_bid ha.dig)
 have a_nonce := hA.get (ms_nonce ha.dig)
 have b_kind := hB.get ms_kind
 have b_rnd := hB.get ms_rnd
 have b_car := hB.get ms_car
 have b_req := hB.get ms_req
 have b_rsv := hB.get ms_rsv
 have b_marks := hB.get (ms_marks hb.dig)
 have b_bid := hB.get (ms_bid hb.dig)
 have b_nonce := hB.get (ms_nonce hb.dig)
 replace hA := Lib.hid hA
 replace hB := Lib.hid hB
 refine wp_region_list ?_
 simp only [List.append_eq, List.cons_append, List.nil_append]
 have sa := Lib.hid (dig_size ha.dig)
 have sb := Lib.hid (dig_size hb.dig)
 replace ha := Lib.hid ha
 replace hb := Lib.hid hb
 clear hm
 (refine BigFrame.wpList_want rfl ?_; intro K hK; replace hK := Lib.hid hK; go_wp2_with fail; refine hK.out _ _ ?_; clear hK K) -- 0
 (refine BigFrame.wpList_want rfl ?_; intro K hK; replace hK := Lib.hid hK; go_wp2_with fail; refine hK.out _ _ ?_; clear hK K) -- 1
 (refine BigFrame.wpList_want rfl ?_; intro K hK; replace hK := Lib.hid hK; go_wp2_with fail; refine hK.out _ _ ?_; clear hK K) -- 2
 (refine BigFrame.wpList_want rfl ?_; intro K hK; replace hK := Lib.hid hK; go_wp2_with fail; refine hK.out _ _ ?_; clear hK K) -- 3
 by_cases h0 : a.kind = b.kind
 case neg =>
  have hs := Lib.hid (show sameB a b = false by simp [sameB, h0])
  go_wp2
  go_ret
  exact ⟨ret_bool (by rw [hs.out]), hB0.out⟩
 (refine BigFrame.wpList_want rfl ?_; intro K hK; replace hK := Lib.hid hK; go_wp2_with fail; refine hK.out _ _ ?_; clear hK K) -- 4
 skip
 (refine BigFrame.wpList_want rfl ?_; intro K hK; replace hK := Lib.hid hK; go_wp2_with fail; refine hK.out _ _ ?_; clear hK K) -- 5
 (refine BigFrame.wpList_want rfl ?_; intro K hK; replace hK := Lib.hid hK; go_wp2_with fail; refine hK.out _ _ ?_; clear hK K) -- 6
 (refine BigFrame.wpList_want rfl ?_; intro K hK; replace hK := Lib.hid hK; go_wp2_with fail; refine hK.out _ _ ?_; clear hK K) -- 7
 (refine BigFrame.wpList_want rfl ?_; intro K hK; replace hK := Lib.hid hK; go_wp2_with fail; refine hK.out _ _ ?_; clear hK K) -- 8
 (refine BigFrame.wpList_want rfl ?_; intro K hK; replace hK := Lib.hid hK; go_wp2_with fail; refine hK.out _ _ ?_; clear hK K) -- 9
 by_cases h1 : a.rnd = b.rnd
 case neg =>
  have hs := Lib.hid (show sameB a b = false by simp [sameB, h0, h1])
  go_wp2
  go_ret
  exact ⟨ret_bool (by rw [hs.out]), hB0.out⟩
 (refine BigFrame.wpList_want rfl ?_; intro K hK; replace hK := Lib.hid hK; go_wp2_with fail; refine hK.out _ _ ?_; clear hK K) -- 10
 skip
 (refine BigFrame.wpList_want rfl ?_; intro K hK; replace hK := Lib.hid hK; go_wp2_with fail; refine hK.out _ _ ?_; clear hK K) -- 11
 (refine BigFrame.wpList_want rfl ?_; intro K hK; replace hK := Lib.hid hK; go_wp2_with fail; refine hK.out _ _ ?_; clear hK K) -- 12
 (refine BigFrame.wpList_want rfl ?_; intro K hK; replace hK := Lib.hid hK; go_wp2_with fail; refine hK.out _ _ ?_; clear hK K) -- 13
 (refine BigFrame.wpList_want rfl ?_; intro K hK; replace hK := Lib.hid hK; go_wp2_with fail; refine hK.out _ _ ?_; clear hK K) -- 14
 (refine BigFrame.wpList_want rfl ?_; intro K hK; replace hK := Lib.hid hK; go_wp2_with fail; refine hK.out _ _ ?_; clear hK K) -- 15
 (refine BigFrame.wpList_want rfl ?_; intro K hK; replace hK := Lib.hid hK; go_wp2_with fail; refine hK.out _ _ ?_; clear hK K) -- 16
 by_cases h2 : a.car = b.car
 case neg =>
  have hs := Lib.hid (show sameB a b = false by simp [sameB, h0, h1, h2])
  go_wp2
  go_ret
  exact ⟨ret_bool (by rw [hs.out]), hB0.out⟩
 (refine BigFrame.wpList_want rfl ?_; intro K hK; replace hK := Lib.hid hK; go_wp2_with fail; refine hK.out _ _ ?_; clear hK K) -- 17
 skip
 (refine BigFrame.wpList_want rfl ?_; intro K hK; replace hK := Lib.hid hK; go_wp2_with fail; refine hK.out _ _ ?_; clear hK K) -- 18
 (refine BigFrame.wpList_want rfl ?_; intro K hK; replace hK := Lib.hid hK; go_wp2_with fail; refine hK.out _ _ ?_; clear hK K) -- 19
 (refine BigFrame.wpList_want rfl ?_; intro K hK; replace hK := Lib.hid hK; go_wp2_with fail; refine hK.out _ _ ?_; clear hK K) -- 20
 (refine BigFrame.wpList_want rfl ?_; intro K hK; replace hK := Lib.hid hK; go_wp2_with fail; refine hK.out _ _ ?_; clear hK K) -- 21
 (refine BigFrame.wpList_want rfl ?_; intro K hK; replace hK := Lib.hid hK; go_wp2_with fail; refine hK.out _ _ ?_; clear hK K) -- 22
 (refine BigFrame.wpList_want rfl ?_; intro K hK; replace hK := Lib.hid hK; go_wp2_with fail; refine hK.out _ _ ?_; clear hK K) -- 23
 by_cases h3 : a.req = b.req
 case neg =>
  have hs := Lib.hid (show sameB a b = false by simp [sameB, h0, h1, h2, h3])
  go_wp2
  go_ret
  exact ⟨ret_bool (by rw [hs.out]), hB0.out⟩
 (refine BigFrame.wpList_want rfl ?_; intro K hK; replace hK := Lib.hid hK; go_wp2_with fail; refine hK.out _ _ ?_; clear hK K) -- 24
 skip
 (refine BigFrame.wpList_want rfl ?_; intro K hK; replace hK := Lib.hid hK; go_wp2_with fail; refine hK.out _ _ ?_; clear hK K) -- 25
 (refine BigFrame.wpList_want rfl ?_; intro K hK; replace hK := Lib.hid hK; go_wp2_with fail; refine hK.out _ _ ?_; clear hK K) -- 26
 (refine BigFrame.wpList_want rfl ?_; intro K hK; replace hK := Lib.hid hK; go_wp2_with fail; refine hK.out _ _ ?_; clear hK K) -- 27
 (refine BigFrame.wpList_want rfl ?_; intro K hK; replace hK := Lib.hid hK; go_wp2_with fail; refine hK.out _ _ ?_; clear hK K) -- 28
 (refine BigFrame.wpList_want rfl ?_; intro K hK; replace hK := Lib.hid hK; go_wp2_with fail; refine hK.out _ _ ?_; clear hK K) -- 29
 (refine BigFrame.wpList_want rfl ?_; intro K hK; replace hK := Lib.hid hK; go_wp2_with fail; refine hK.out _ _ ?_; clear hK K) -- 30
 by_cases h4 : a.rsv = b.rsv
 case neg =>
  have hs := Lib.hid (show sameB a b = false by simp [sameB, h0, h1, h2, h3, h4])
  go_wp2
  go_ret
  exact ⟨ret_bool (by rw [hs.out]), hB0.out⟩
 (refine BigFrame.wpList_want rfl ?_; intro K hK; replace hK := Lib.hid hK; go_wp2_with fail; refine hK.out _ _ ?_; clear hK K) -- 31
 skip
 (refine BigFrame.wpList_want rfl ?_; intro K hK; replace hK := Lib.hid hK; go_wp2_with fail; refine hK.out _ _ ?_; clear hK K) -- 32
 (refine BigFrame.wpList_want rfl ?_; intro K hK; replace hK := Lib.hid hK; go_wp2_with fail; refine hK.out _ _ ?_; clear hK K) -- 33
 (refine BigFrame.wpList_want rfl ?_; intro K hK; replace hK := Lib.hid hK; go_wp2_with fail; refine hK.out _ _ ?_; clear hK K) -- 34
 refine wpList_load_part_w rfl 35 _ rfl n 5 rfl (rqC a.rq) (fun j v hv => hA.out.get (ms_rq hv)) _ Try.underlying35 rfl (rq_size _) ?_
 go_simp
 (refine BigFrame.wpList_want rfl ?_; intro K hK; replace hK := Lib.hid hK; go_wp2_with fail; refine hK.out _ _ ?_; clear hK K) -- 36
 refine wpList_load_part_w rfl 35 _ rfl n1 5 rfl (rqC b.rq) (fun j v hv => hB.out.get (ms_rq hv)) _ Try.underlying35 rfl (rq_size _) ?_
 go_simp
 by_cases h5 : rqB a.rq b.rq = true
 case neg =>
  rw [Bool.not_eq_true] at h5
  have hs := Lib.hid (show sameB a b = false by simp [sameB, h0, h1, h2, h3, h4, h5])
  replace eR := eR.out
  simp only [h5] at eR
  go_wp2
  go_ret
  exact ⟨ret_bool (by rw [hs.out]), hB0.out⟩
 replace eR := eR.out
 simp only [h5] at eR
 (refine BigFrame.wpList_want rfl ?_; intro K hK; replace hK := Lib.hid hK; go_wp2_with fail; refine hK.out _ _ ?_; clear hK K) -- 38
 skip
 (refine BigFrame.wpList_want rfl ?_; intro K hK; replace hK := Lib.hid hK; go_wp2_with fail; refine hK.out _ _ ?_; clear hK K) -- 39
 (refine BigFrame.wpList_want rfl ?_; intro K hK; replace hK := Lib.hid hK; go_wp2_with fail; refine hK.out _ _ ?_; clear hK K) -- 40
 (refine BigFrame.wpList_want rfl ?_; intro K hK; replace hK := Lib.hid hK; go_wp2_with fail; refine hK.out _ _ ?_; clear hK K) -- 41
 refine wpList_load_part_w rfl 37 _ rfl n 15 rfl (a.dig.map u8V) (fun j v hv => hA.out.get (ms_dig hv)) _ Try.underlying37 rfl sa.out ?_
 go_simp
 (refine BigFrame.wpList_want rfl ?_; intro K hK; replace hK := Lib.hid hK; go_wp2_with fail; refine hK.out _ _ ?_; clear hK K) -- 43
 refine wpList_load_part_w rfl 37 _ rfl n1 15 rfl (b.dig.map u8V) (fun j v hv => hB.out.get (ms_dig hv)) _ Try.underlying37 rfl sb.out ?_
 go_simp
 by_cases h6 : (a.dig == b.dig) = true
 case neg =>
  rw [Bool.not_eq_true] at h6
  have hs := Lib.hid (show sameB a b = false by simp [sameB, h0, h1, h2, h3, h4, h5, h6])
  replace eD := eD.out
  simp only [h6] at eD
  go_wp2
  go_ret
  exact ⟨ret_bool (by rw [hs.out]), hB0.out⟩
 replace eD := eD.out
 simp only [h6] at eD
 (refine BigFrame.wpList_want rfl ?_; intro K hK; replace hK := Lib.hid hK; go_wp2_with fail; refine hK.out _ _ ?_; clear hK K) -- 45
 skip
 (refine BigFrame.wpList_want rfl ?_; intro K hK; replace hK := Lib.hid hK; go_wp2_with fail; refine hK.out _ _ ?_; clear hK K) -- 46
 (refine BigFrame.wpList_want rfl ?_; intro K hK; replace hK := Lib.hid hK; go_wp2_with fail; refine hK.out _ _ ?_; clear hK K) -- 47
 (refine BigFrame.wpList_want rfl ?_; intro K hK; replace hK := Lib.hid hK; go_wp2_with fail; refine hK.out _ _ ?_; clear hK K) -- 48
 (refine BigFrame.wpList_want rfl ?_; intro K hK; replace hK := Lib.hid hK; go_wp2_with fail; refine hK.out _ _ ?_; clear hK K) -- 49
 (refine BigFrame.wpList_want rfl ?_; intro K hK; replace hK := Lib.hid hK; go_wp2_with fail; refine hK.out _ _ ?_; clear hK K) -- 50
 (refine BigFrame.wpList_want rfl ?_; intro K hK; replace hK := Lib.hid hK; go_wp2_with fail; refine hK.out _ _ ?_; clear hK K) -- 51
 by_cases h7 : (a.marks == b.marks) = true
 case neg =>
  rw [Bool.not_eq_true] at h7
  have hs := Lib.hid (show sameB a b = false by simp [sameB, h0, h1, h2, h3, h4, h5, h6, h7])
  go_wp2_with fail
  refine hm1.out.mono ?_
  rintro e w3 ⟨rfl, hb3⟩
  rw [h7]
  go_wp2
  go_ret
  exact ⟨ret_bool (by rw [hs.out]), hB0.out.trans (hb3.mono hB0.out.size)⟩
 (refine BigFrame.wpList_want rfl ?_; intro K hK; replace hK := Lib.hid hK; go_wp2_with fail)
 refine hm1.out.mono ?_
 rintro e w3 ⟨rfl, hb3⟩
 rw [h7]
 go_wp2_with fail
 refine hK.out _ _ ?_
 clear hK K
 clear a_kind
 clear a_rnd
 clear a_car
 clear a_req
 clear a_rsv
 clear a_marks
 clear a_bid
 clear a_nonce
 replace hA := Lib.hid (hA.out.on hb3)
 have a_bid := hA.out.get (ms_bid ha.out.dig)
 have a_nonce := hA.out.get (ms_nonce ha.out.dig)
 clear b_kind
 clear b_rnd
 clear b_car
 clear b_req
 clear b_rsv
 clear b_marks
 clear b_bid
 clear b_nonce
 replace hB := Lib.hid (hB.out.on hb3)
 have b_bid := hB.out.get (ms_bid hb.out.dig)
 have b_nonce := hB.out.get (ms_nonce hb.out.dig)
 replace hB0 := Lib.hid (hB0.out.trans (hb3.mono hB0.out.size))
 clear hb3 hm1
 (refine BigFrame.wpList_want rfl ?_; intro K hK; replace hK := Lib.hid hK; go_wp2_with fail; refine hK.out _ _ ?_; clear hK K) -- 53
 (refine BigFrame.wpList_want rfl ?_; intro K hK; replace hK := Lib.hid hK; go_wp2_with fail; refine hK.out _ _ ?_; clear hK K) -- 54
 (refine BigFrame.wpList_want rfl ?_; intro K hK; replace hK := Lib.hid hK; go_wp2_with fail; refine hK.out _ _ ?_; clear hK K) -- 55
 (refine BigFrame.wpList_want rfl ?_; intro K hK; replace hK := Lib.hid hK; go_wp2_with fail; refine hK.out _ _ ?_; clear hK K) -- 56
 (refine BigFrame.wpList_want rfl ?_; intro K hK; replace hK := Lib.hid hK; go_wp2_with fail; refine hK.out _ _ ?_; clear hK K) -- 57
 (refine BigFrame.wpList_want rfl ?_; intro K hK; replace hK := Lib.hid hK; go_wp2_with fail; refine hK.out _ _ ?_; clear hK K) -- 58
 by_cases h8 : a.bid = b.bid
 case neg =>
  have j8 : ¬ (a.bid : Int) = (b.bid : Int) := by omega
  have hs := Lib.hid (show sameB a b = false by simp [sameB, h0, h1, h2, h3, h4, h5, h6, h7, h8])
  go_wp2
  go_ret
  exact ⟨ret_bool (by rw [hs.out]), hB0.out⟩
 (refine BigFrame.wpList_want rfl ?_; intro K hK; replace hK := Lib.hid hK; go_wp2_with fail; refine hK.out _ _ ?_; clear hK K) -- 59
 skip
 (refine BigFrame.wpList_want rfl ?_; intro K hK; replace hK := Lib.hid hK; go_wp2_with fail; refine hK.out _ _ ?_; clear hK K) -- 60
 (refine BigFrame.wpList_want rfl ?_; intro K hK; replace hK := Lib.hid hK; go_wp2_with fail; refine hK.out _ _ ?_; clear hK K) -- 61
 (refine BigFrame.wpList_want rfl ?_; intro K hK; replace hK := Lib.hid hK; go_wp2_with fail; refine hK.out _ _ ?_; clear hK K) -- 62
 (refine BigFrame.wpList_want rfl ?_; intro K hK; replace hK := Lib.hid hK; go_wp2_with fail; refine hK.out _ _ ?_; clear hK K) -- 63
 (refine BigFrame.wpList_want rfl ?_; intro K hK; replace hK := Lib.hid hK; go_wp2_with fail; refine hK.out _ _ ?_; clear hK K) -- 64
 (refine BigFrame.wpList_want rfl ?_; intro K hK; replace hK := Lib.hid hK; go_wp2_with fail; refine hK.out _ _ ?_; clear hK K) -- 65
 by_cases h9 : a.nonce = b.nonce
 case neg =>
  have j9 : ¬ (a.nonce : Int) = (b.nonce : Int) := by omega
  have hs := Lib.hid (show sameB a b = false by simp [sameB, h0, h1, h2, h3, h4, h5, h6, h7, h8, h9])
  go_wp2
  go_ret
  exact ⟨ret_bool (by rw [hs.out]), hB0.out⟩
 (refine BigFrame.wpList_want rfl ?_; intro K hK; replace hK := Lib.hid hK; go_wp2_with fail; refine hK.out _ _ ?_; clear hK K) -- 66
 skip
 (refine BigFrame.wpList_want rfl ?_; intro K hK; replace hK := Lib.hid hK; go_wp2_with fail; refine hK.out _ _ ?_; clear hK K) -- 67
 (refine BigFrame.wpList_want rfl ?_; intro K hK; replace hK := Lib.hid hK; go_wp2_with fail; refine hK.out _ _ ?_; clear hK K) -- 68
 (refine BigFrame.wpList_want rfl ?_; intro K hK; replace hK := Lib.hid hK; go_wp2_with fail; refine hK.out _ _ ?_; clear hK K) -- 69
 refine wpList_load_part_w rfl 40 _ rfl n 50 rfl (ocC a.oc) (fun j v hv => hA.out.get (ms_oc ha.out.dig hv)) _ Try.underlying40 rfl (oc_size _) ?_
 go_simp
 (refine BigFrame.wpList_want rfl ?_; intro K hK; replace hK := Lib.hid hK; go_wp2_with fail; refine hK.out _ _ ?_; clear hK K) -- 71
 refine wpList_load_part_w rfl 40 _ rfl n1 50 rfl (ocC b.oc) (fun j v hv => hB.out.get (ms_oc hb.out.dig hv)) _ Try.underlying40 rfl (oc_size _) ?_
 go_simp
 by_cases h10 : ocE a.oc b.oc = true
 case neg =>
  rw [Bool.not_eq_true] at h10
  have hs := Lib.hid (show sameB a b = false by simp [sameB, h0, h1, h2, h3, h4, h5, h6, h7, h8, h9, h10])
  replace eO := eO.out
  simp only [h10] at eO
  go_wp2
  go_ret
  exact ⟨ret_bool (by rw [hs.out]), hB0.out⟩
 replace eO := eO.out
 simp only [h10] at eO
 (refine BigFrame.wpList_want rfl ?_; intro K hK; replace hK := Lib.hid hK; go_wp2_with fail; refine hK.out _ _ ?_; clear hK K) -- 73
 skip
 (refine BigFrame.wpList_want rfl ?_; intro K hK; replace hK := Lib.hid hK; go_wp2_with fail; refine hK.out _ _ ?_; clear hK K) -- 74
 (refine BigFrame.wpList_want rfl ?_; intro K hK; replace hK := Lib.hid hK; go_wp2_with fail; refine hK.out _ _ ?_; clear hK K) -- 75
 have hs := Lib.hid (show sameB a b = true by simp [sameB, h0, h1, h2, h3, h4, h5, h6, h7, h8, h9, h10])
 go_wp2
 go_ret
 exact ⟨ret_bool (by rw [hs.out]), hB0.out⟩
theorem mark_at {B : Nat} {W : World} {x : Option Addr} {n cap : Nat} {l : List (Int × Bs)} (h : MarksAt B W (.slice x n cap) l) {k : Nat} {p : Int × Bs} (hk : l[k]? = some p) :
 ∃ g o, x = some ⟨g, o, none⟩ ∧ g < B ∧ ∀ j v, (markC p)[j]? = some v → W.cell? ⟨g, o + k * 33 + j, none⟩ = some v := by
 obtain ⟨g, o, e, hg, hc⟩ := RowB.row h (j := k) (r := markC p) (by rw [List.getElem?_map, hk]; rfl)
 exact ⟨g, o, e, hg, hc⟩
theorem marks_len {B : Nat} {W : World} {x : Option Addr} {n cap : Nat} {l : List (Int × Bs)} (h : MarksAt B W (.slice x n cap) l) : l.length = n := by
 obtain ⟨x', cap', e, -⟩ := h
 cases e
 simp
theorem marks_max {B : Nat} {W : World} {x : Option Addr} {n cap : Nat} {l : List (Int × Bs)} (h : MarksAt B W (.slice x n cap) l) : (n : Int) ≤ 9223372036854775807 := by
 obtain ⟨x', cap', e, h1, h2, -⟩ := h
 cases e
 unfold maxLen at h2
 omega
theorem take_snoc {α : Type} {l : List α} {i : Nat} {p : α} (h : l[i]? = some p) : l.take (i + 1) = l.take i ++ [p] := by rw [List.take_add_one, h]; rfl
set_option maxRecDepth 100000 in
set_option maxHeartbeats 8000000 in
theorem sameMarks_any (x y : Option Addr) (N K ca cb : Nat) (la lb : List (Int × Bs)) (ha : ∀ p ∈ la, p.2.length = 32) (hb : ∀ p ∈ lb, p.2.length = 32) (w : World) (hA : MarksAt w.heap.size w (.slice x N ca) la) (hB : MarksAt w.heap.size w (.slice y K cb) lb) :
 Calls Try.prog 31 #[.slice x N ca, .slice y K cb] w fun e w' => e = .returned (.bool (la == lb)) ∧ Below w.heap.size w w' := by
 have hN := marks_len hA
 have hK := marks_len hB
 have hNm := marks_max hA
 replace hA := Lib.hid hA
 replace hB := Lib.hid hB
 replace ha := Lib.hid ha
 replace hb := Lib.hid hb
 by_cases hl : N = K
 case neg =>
  have hl1 : ¬ (N : Int) = (K : Int) := by omega
  have hs := Lib.hid (show (la == lb) = false by
   rw [beq_eq_false_iff_ne]
   intro e
   rw [e] at hN
   omega)
  clear hN hK
  go_enter Try.func31, Try.ntmps31
  go_wp2
  go_ret
  exact ⟨ret_bool (by rw [hs.out]), .refl _ _⟩
 subst hl
 replace hN := Lib.hid hN
 replace hK := Lib.hid hK
 go_enter Try.func31, Try.ntmps31
 go_wp2_with fail
 go_loopw [5] (fun c wr => ∃ i : Nat, c = .int .i64 (i : Int) ∧ i ≤ N ∧ Hid (la.take i = lb.take i) ∧ Hid (Below w.heap.size w wr))
  (fun c _ => N - (RowKit.intOf c).toNat)
 case atStart => exact ⟨0, rfl, Nat.zero_le _, Lib.hid rfl, Lib.hid (.refl _ _)⟩
 case round =>
  obtain ⟨wi, hwi⟩ : ∃ wi, wi = wr := ⟨_, rfl⟩
  subst hwi
  obtain ⟨i, rfl, hiN, ht, hBl⟩ := hrel
  by_cases hlt : i < N
  case neg =>
   obtain rfl : N = i := by omega
   have hs := Lib.hid (show (la == lb) = true by
    have := ht.out
    rw [List.take_of_length_le (by rw [hN.out]; exact Nat.le_refl _), List.take_of_length_le (by rw [hK.out]; exact Nat.le_refl _)] at this
    rw [this]
    simp)
   clear hlt ht
   go_wp2
   go_ret
   exact ⟨ret_bool (by rw [hs.out]), hBl.out⟩
  have hlt' : (i : Int) < (N : Int) := by omega
  obtain ⟨p, hp⟩ : ∃ p, la[i]? = some p := ⟨_, List.getElem?_eq_getElem (by rw [hN.out]; exact hlt)⟩
  obtain ⟨q, hq⟩ : ∃ q, lb[i]? = some q := ⟨_, List.getElem?_eq_getElem (by rw [hK.out]; exact hlt)⟩
  obtain ⟨g, o, rfl, hg, hpc⟩ := mark_at (hA.out.keep hBl.out (Nat.le_refl _)) hp
  obtain ⟨g2, o2, rfl, hg2, hqc⟩ := mark_at (hB.out.keep hBl.out (Nat.le_refl _)) hq
  have lp := ha.out p (List.mem_of_getElem? hp)
  have lq := hb.out q (List.mem_of_getElem? hq)
  have eM := eqMark p q lp lq
  have sp := Lib.hid (mark_size lp)
  have sq := Lib.hid (mark_size lq)
  have hz := hBl.out.size
  have kp := Lib.hid (show ∀ W, (∃ p : Regrown, W = grow (redrawn wi p.d) p.os) → ∀ j v, (markC p)[j]? = some v → W.cell? ⟨g, o + i * 33 + j, none⟩ = some v by
   rintro W ⟨r, rfl⟩ j v hv
   exact cell_regrown (hpc j v hv) r.d r.os)
  have kq := Lib.hid (show ∀ W, (∃ p : Regrown, W = grow (redrawn wi p.d) p.os) → ∀ j v, (markC q)[j]? = some v → W.cell? ⟨g2, o2 + i * 33 + j, none⟩ = some v by
   rintro W ⟨r, rfl⟩ j v hv
   exact cell_regrown (hqc j v hv) r.d r.os)
  have hltH := Lib.hid hlt
  clear hpc hqc lp lq hlt
  go_upto_region 6 with fail
  refine wp_region_quiet_below (by kernel_rfl) (by kernel_rfl) ?_
  cases hpq : (p == q)
  · have hs := Lib.hid (show (la == lb) = false by
     rw [beq_eq_false_iff_ne]
     intro e
     rw [e, hq] at hp
     cases hp
     simp at hpq)
    simp only [hpq] at eM
    clear hp hq hpq
    repeat (first | (refine wpQuiet_load_part_w rfl 65 _ rfl g (o + i * 33) rfl (markC p) kp.out _ Try.underlying65 rfl sp.out ?_; go_simp) | (refine wpQuiet_load_part_w rfl 65 _ rfl g2 (o2 + i * 33) rfl (markC q) kq.out _ Try.underlying65 rfl sq.out ?_; go_simp) | go_big_quiet_step (fail))
    refine wpQuiet_nil ?_
    intro pq
    obtain ⟨d, os⟩ := pq
    have hB1 := Lib.hid (hBl.out.trans ((below_regrown wi d os).mono hz))
    dsimp only
    clear hBl kp kq
    generalize grow (redrawn wi d) os = w1 at hB1 ⊢
    go_wp2
    go_ret
    exact ⟨ret_bool (by rw [hs.out]), hB1.out⟩
  · have hpe : p = q := by simpa using hpq
    have ht2 := Lib.hid (show la.take (i + 1) = lb.take (i + 1) by rw [take_snoc hp, take_snoc hq, ht.out, hpe])
    simp only [hpq] at eM
    clear hp hq hpq hpe
    repeat (first | (refine wpQuiet_load_part_w rfl 65 _ rfl g (o + i * 33) rfl (markC p) kp.out _ Try.underlying65 rfl sp.out ?_; go_simp) | (refine wpQuiet_load_part_w rfl 65 _ rfl g2 (o2 + i * 33) rfl (markC q) kq.out _ Try.underlying65 rfl sq.out ?_; go_simp) | go_big_quiet_step (fail))
    refine wpQuiet_nil ?_
    intro pq
    obtain ⟨d, os⟩ := pq
    have hB1 := Lib.hid (hBl.out.trans ((below_regrown wi d os).mono hz))
    dsimp only
    clear hBl kp kq
    generalize grow (redrawn wi d) os = w1 at hB1 ⊢
    go_wp2_with fail
    go_roundw
    case rel => exact ⟨i + 1, by go_num, by have := hltH.out; omega, ht2, hB1⟩
    case measure => have := hltH.out; simp [RowKit.intOf]; omega
theorem same_full (a b : Ms) (va vb : Value) (ha : a.ok) (hb : b.ok) (w : World) (hA : MarksAt w.heap.size w va a.marks) (hB : MarksAt w.heap.size w vb b.marks) :
 Calls Try.prog 19 #[.agg (msC a va).toArray, .agg (msC b vb).toArray] w fun e w' => e = .returned (.bool (sameB a b)) ∧ Below w.heap.size w w' := by
 refine same_any a b va vb ha hb w fun W hW => ?_
 have hA' := hA
 have hB' := hB
 obtain ⟨x, ca, rfl, _⟩ := hA'
 obtain ⟨y, cb, rfl, _⟩ := hB'
 exact sameMarks_any x y _ _ ca cb a.marks b.marks ha.marks hb.marks W ((RowB.keep hA hW (Nat.le_refl _)).more hW.size) ((RowB.keep hB hW (Nat.le_refl _)).more hW.size)
theorem carrier_any (c : Int) (w : World) : Calls Try.prog 49 #[.int .i64 c] w fun e w' => e = .returned (.bool (carB c)) ∧ w' = w := by
 have h := Lib.hid (show carB c = (decide (0 ≤ c) && decide (c < 8)) by simp [carB])
 go_enter Try.func49, Try.ntmps49
 by_cases h1 : 0 ≤ c
 · have t1 : decide (0 ≤ c) = true := decide_eq_true h1
   go_wp2
   go_ret
   exact ⟨ret_bool (by rw [h.out, t1]; rfl), rfl⟩
 · have t1 : decide (0 ≤ c) = false := decide_eq_false h1
   go_wp2
   go_ret
   exact ⟨ret_bool (by rw [h.out, t1]; rfl), rfl⟩
theorem outcome_any (c : Oc) (w : World) : Calls Try.prog 50 #[.agg #[.int .i64 c.st, .int .i64 c.wn, .int .u64 (c.pr : Int)]] w fun e w' => e = .returned (.bool (ocB c)) ∧ Below w.heap.size w w' := by
 obtain ⟨s, n, p⟩ := c
 have hB : Below w.heap.size w (w.alloc (.cells #[.int .i64 s, .int .i64 n, .int .u64 (p : Int)] 40)) := (Below.refl _ _).alloc (Nat.le_refl _) _
 by_cases h3 : s = 3
 · subst h3
   have h := Lib.hid (show ocB ⟨3, n, p⟩ = (decide (n = -1) && decide (p = 0)) by simp [ocB])
   by_cases h1 : n = -1
   · subst h1
     by_cases h2 : p = 0
     · subst h2
       go_enter Try.func50, Try.ntmps50
       go_wp2
       go_ret
       exact ⟨ret_bool (by rw [h.out]; rfl), hB⟩
     · have h4 : ¬ (p : Int) = 0 := by omega
       go_enter Try.func50, Try.ntmps50
       go_wp2
       go_ret
       exact ⟨ret_bool (by rw [h.out]; simp [h2]), hB⟩
   · go_enter Try.func50, Try.ntmps50
     go_wp2
     go_ret
     exact ⟨ret_bool (by rw [h.out]; simp [h1]), hB⟩
 · have h := Lib.hid (show ocB ⟨s, n, p⟩ = (decide (s = 2 ∨ s = 4) && (carB n && decide (p ≤ 16777216))) by simp [ocB, h3, carB])
   obtain ⟨cb, hcb⟩ : ∃ cb, carB n = cb := ⟨_, rfl⟩
   have hc := fun W => carrier_any n W
   simp only [hcb] at hc
   rw [hcb] at h
   clear hcb
   have hp : (decide (p ≤ 16777216)) = decide ((p : Int) ≤ 16777216) := by
    rw [Bool.eq_iff_iff]
    simp
    omega
   rw [hp] at h
   clear hp
   by_cases h24 : s = 2 ∨ s = 4
   · have hB2 := Lib.hid hB
     have t0 : decide (s = 2 ∨ s = 4) = true := decide_eq_true h24
     rw [t0] at h
     clear t0 hB
     cases cb
     · rcases h24 with rfl | rfl
       all_goals
        go_enter Try.func50, Try.ntmps50
        go_wp2_with fail
        refine (hc _).mono ?_
        rintro e w1 ⟨rfl, rfl⟩
        go_wp2
        go_ret
        exact ⟨ret_bool (by rw [h.out]; rfl), hB2.out⟩
     · rcases h24 with rfl | rfl
       all_goals
        go_enter Try.func50, Try.ntmps50
        go_wp2_with fail
        refine (hc _).mono ?_
        rintro e w1 ⟨rfl, rfl⟩
        go_wp2
        go_ret
        exact ⟨ret_bool (by rw [h.out]; simp), hB2.out⟩
   · have t0 : decide (s = 2 ∨ s = 4) = false := decide_eq_false h24
     rw [t0] at h
     have h2 : ¬ s = 2 := fun e => h24 (.inl e)
     have h4 : ¬ s = 4 := fun e => h24 (.inr e)
     clear t0 h24 hc
     go_enter Try.func50, Try.ntmps50
     go_wp2
     go_ret
     exact ⟨ret_bool (by rw [h.out]; rfl), hB⟩
end Go.Proofs.Ytpefdmkfmcjfnaa.Ms

import Derived.Test.YtpefdmkfmcjfnaaPkPart
import Derived.Test.YtpefdmkfmcjfnaaPkFrMath

namespace Go.Proofs.Ytpefdmkfmcjfnaa.Ms
open Go.RowKit Go.Sort Go.Proofs.Ytpefdmkfmcjfnaa.Mem Go.Proofs.Ytpefdmkfmcjfnaa.Route Go.Proofs.Ytpefdmkfmcjfnaa.Oct Go.Proofs.Ytpefdmkfmcjfnaa.Part
set_option linter.unusedVariables false
def MarksAt (B : Nat) (W : World) (v : Value) (l : List (Int × Bs)) : Prop := RowB B W v 33 (l.map markC)
theorem dig_size {d : Bs} (h : d.length = 32) : (Try.prog.info? 37).map (·.size) = some (d.map u8V).length := by rw [List.length_map, h]; kernel_rfl
theorem mark_size {p : Int × Bs} (h : p.2.length = 32) : (Try.prog.info? 65).map (·.size) = some (markC p).length := by rw [markC, List.length_cons, List.length_map, h]; kernel_rfl
theorem rq_size (r : Rq) : (Try.prog.info? 35).map (·.size) = some (rqC r).length := by kernel_rfl
theorem oc_size (o : Oc) : (Try.prog.info? 40).map (·.size) = some (ocC o).length := by kernel_rfl
set_option maxRecDepth 100000 in
set_option maxHeartbeats 8000000 in
theorem same_any (a b : Ms) (va vb : Value) (ha : a.ok) (hb : b.ok) (w : World)
 (hm : ∀ W, Below w.heap.size w W → Calls Try.prog 31 #[va, vb] W fun e w' => e = .returned (.bool (a.marks == b.marks)) ∧ Below W.heap.size W w') :
 Calls Try.prog 19 #[.agg (msC a va).toArray, .agg (msC b vb).toArray] w fun e w' => e = .returned (.bool (sameB a b)) ∧ Below w.heap.size w w' := by
 have hA : AtL ((w.alloc (.cells (msC a va).toArray 42)).alloc (.cells (msC b vb).toArray 42)) w.heap.size 42 (msC a va) := (AtL.new w _ _).alloc _
 have hB : AtL ((w.alloc (.cells (msC a va).toArray 42)).alloc (.cells (msC b vb).toArray 42)) (w.heap.size + 1) 42 (msC b vb) := by have := AtL.new (w.alloc (.cells (msC a va).toArray 42)) 42 (msC b vb); rwa [World.size_alloc] at this
 have hB0 : Below w.heap.size w ((w.alloc (.cells (msC a va).toArray 42)).alloc (.cells (msC b vb).toArray 42)) := ((Below.refl _ _).alloc (Nat.le_refl _) _).alloc (by simp) _
 have hm1 := Lib.hid (hm _ hB0)
 have eR := Lib.hid (eqRq a.rq b.rq)
 have eD := Lib.hid (eqDig a.dig b.dig ha.dig hb.dig)
 have eO := Lib.hid (eqOc a.oc b.oc)
 go_enter Try.func19, Try.ntmps19
 go_upto_region 1 with fail
 replace hB0 := Lib.hid hB0
 obtain ⟨n, hn⟩ : ∃ n, w.heap.size = n := ⟨_, rfl⟩
 obtain ⟨n1, hn1⟩ : ∃ n1, n + 1 = n1 := ⟨_, rfl⟩
 simp only [hn, hn1] at hA hB ⊢
 generalize ((w.alloc (.cells (msC a va).toArray 42)).alloc (.cells (msC b vb).toArray 42)) = W2 at hA hB hB0 hm1 ⊢
 replace hn := Lib.hid hn
 replace hn1 := Lib.hid hn1
 have a_kind := hA.get ms_kind
 have a_rnd := hA.get ms_rnd
 have a_car := hA.get ms_car
 have a_req := hA.get ms_req
 have a_rsv := hA.get ms_rsv
 have a_marks := hA.get (ms_marks ha.dig)
 have a_bid := hA.get (ms_bid ha.dig)
 have a_nonce := hA.get (ms_nonce ha.dig)
 have b_kind := hB.get ms_kind
 have b_rnd := hB.get ms_rnd
 have b_car := hB.get ms_car
 have b_req := hB.get ms_req
 have b_rsv := hB.get ms_rsv
 have b_marks := hB.get (ms_marks hb.dig)
 have b_bid := hB.get (ms_bid hb.dig)
 have b_nonce := hB.get (ms_nonce hb.dig)
 replace hA := Lib.hid hA
 replace hB := Lib.hid hB
 refine wp_region_list ?_
 simp only [List.append_eq, List.cons_append, List.nil_append]
 have sa := Lib.hid (dig_size ha.dig)
 have sb := Lib.hid (dig_size hb.dig)
 replace ha := Lib.hid ha
 replace hb := Lib.hid hb
 clear hm
 (refine BigFrame.wpList_want rfl ?_; intro K hK; replace hK := Lib.hid hK; go_wp2_with fail; refine hK.out _ _ ?_; clear hK K) -- 0
 (refine BigFrame.wpList_want rfl ?_; intro K hK; replace hK := Lib.hid hK; go_wp2_with fail; refine hK.out _ _ ?_; clear hK K) -- 1
 (refine BigFrame.wpList_want rfl ?_; intro K hK; replace hK := Lib.hid hK; go_wp2_with fail; refine hK.out _ _ ?_; clear hK K) -- 2
 (refine BigFrame.wpList_want rfl ?_; intro K hK; replace hK := Lib.hid hK; go_wp2_with fail; refine hK.out _ _ ?_; clear hK K) -- 3
 by_cases h0 : a.kind = b.kind
 case neg =>
  have hs := Lib.hid (show sameB a b = false by simp [sameB, h0])
  go_wp2
  go_ret
  exact ⟨ret_bool (by rw [hs.out]), hB0.out⟩
 (refine BigFrame.wpList_want rfl ?_; intro K hK; replace hK := Lib.hid hK; go_wp2_with fail; refine hK.out _ _ ?_; clear hK K) -- 4
 skip
 (refine BigFrame.wpList_want rfl ?_; intro K hK; replace hK := Lib.hid hK; go_wp2_with fail; refine hK.out _ _ ?_; clear hK K) -- 5
 (refine BigFrame.wpList_want rfl ?_; intro K hK; replace hK := Lib.hid hK; go_wp2_with fail; refine hK.out _ _ ?_; clear hK K) -- 6
 (refine BigFrame.wpList_want rfl ?_; intro K hK; replace hK := Lib.hid hK; go_wp2_with fail; refine hK.out _ _ ?_; clear hK K) -- 7
 (refine BigFrame.wpList_want rfl ?_; intro K hK; replace hK := Lib.hid hK; go_wp2_with fail; refine hK.out _ _ ?_; clear hK K) -- 8
 (refine BigFrame.wpList_want rfl ?_; intro K hK; replace hK := Lib.hid hK; go_wp2_with fail; refine hK.out _ _ ?_; clear hK K) -- 9
 by_cases h1 : a.rnd = b.rnd
 case neg =>
  have hs := Lib.hid (show sameB a b = false by simp [sameB, h0, h1])
  go_wp2
  go_ret
  exact ⟨ret_bool (by rw [hs.out]), hB0.out⟩
 (refine BigFrame.wpList_want rfl ?_; intro K hK; replace hK := Lib.hid hK; go_wp2_with fail; refine hK.out _ _ ?_; clear hK K) -- 10
 skip
 (refine BigFrame.wpList_want rfl ?_; intro K hK; replace hK := Lib.hid hK; go_wp2_with fail; refine hK.out _ _ ?_; clear hK K) -- 11
 (refine BigFrame.wpList_want rfl ?_; intro K hK; replace hK := Lib.hid hK; go_wp2_with fail; refine hK.out _ _ ?_; clear hK K) -- 12
 (refine BigFrame.wpList_want rfl ?_; intro K hK; replace hK := Lib.hid hK; go_wp2_with fail; refine hK.out _ _ ?_; clear hK K) -- 13
 (refine BigFrame.wpList_want rfl ?_; intro K hK; replace hK := Lib.hid hK; go_wp2_with fail; refine hK.out _ _ ?_; clear hK K) -- 14
 (refine BigFrame.wpList_want rfl ?_; intro K hK; replace hK := Lib.hid hK; go_wp2_with fail; refine hK.out _ _ ?_; clear hK K) -- 15
 (refine BigFrame.wpList_want rfl ?_; intro K hK; replace hK := Lib.hid hK; go_wp2_with fail; refine hK.out _ _ ?_; clear hK K) -- 16
 by_cases h2 : a.car = b.car
 case neg =>
  have hs := Lib.hid (show sameB a b = false by simp [sameB, h0, h1, h2])
  go_wp2
  go_ret
  exact ⟨ret_bool (by rw [hs.out]), hB0.out⟩
 (refine BigFrame.wpList_want rfl ?_; intro K hK; replace hK := Lib.hid hK; go_wp2_with fail; refine hK.out _ _ ?_; clear hK K) -- 17
 skip
 (refine BigFrame.wpList_want rfl ?_; intro K hK; replace hK := Lib.hid hK; go_wp2_with fail; refine hK.out _ _ ?_; clear hK K) -- 18
 (refine BigFrame.wpList_want rfl ?_; intro K hK; replace hK := Lib.hid hK; go_wp2_with fail; refine hK.out _ _ ?_; clear hK K) -- 19
 (refine BigFrame.wpList_want rfl ?_; intro K hK; replace hK := Lib.hid hK; go_wp2_with fail; refine hK.out _ _ ?_; clear hK K) -- 20
 (refine BigFrame.wpList_want rfl ?_; intro K hK; replace hK := Lib.hid hK; go_wp2_with fail; refine hK.out _ _ ?_; clear hK K) -- 21
 (refine BigFrame.wpList_want rfl ?_; intro K hK; replace hK := Lib.hid hK; go_wp2_with fail; refine hK.out _ _ ?_; clear hK K) -- 22
 (refine BigFrame.wpList_want rfl ?_; intro K hK; replace hK := Lib.hid hK; go_wp2_with fail; refine hK.out _ _ ?_; clear hK K) -- 23
 by_cases h3 : a.req = b.req
 case neg =>
  have hs := Lib.hid (show sameB a b = false by simp [sameB, h0, h1, h2, h3])
  go_wp2
  go_ret
  exact ⟨ret_bool (by rw [hs.out]), hB0.out⟩
 (refine BigFrame.wpList_want rfl ?_; intro K hK; replace hK := Lib.hid hK; go_wp2_with fail; refine hK.out _ _ ?_; clear hK K) -- 24
 skip
 (refine BigFrame.wpList_want rfl ?_; intro K hK; replace hK := Lib.hid hK; go_wp2_with fail; refine hK.out _ _ ?_; clear hK K) -- 25
 (refine BigFrame.wpList_want rfl ?_; intro K hK; replace hK := Lib.hid hK; go_wp2_with fail; refine hK.out _ _ ?_; clear hK K) -- 26
 (refine BigFrame.wpList_want rfl ?_; intro K hK; replace hK := Lib.hid hK; go_wp2_with fail; refine hK.out _ _ ?_; clear hK K) -- 27
 (refine BigFrame.wpList_want rfl ?_; intro K hK; replace hK := Lib.hid hK; go_wp2_with fail; refine hK.out _ _ ?_; clear hK K) -- 28
 (refine BigFrame.wpList_want rfl ?_; intro K hK; replace hK := Lib.hid hK; go_wp2_with fail; refine hK.out _ _ ?_; clear hK K) -- 29
 (refine BigFrame.wpList_want rfl ?_; intro K hK; replace hK := Lib.hid hK; go_wp2_with fail; refine hK.out _ _ ?_; clear hK K) -- 30
 by_cases h4 : a.rsv = b.rsv
 case neg =>
  have hs := Lib.hid (show sameB a b = false by simp [sameB, h0, h1, h2, h3, h4])
  go_wp2
  go_ret
  exact ⟨ret_bool (by rw [hs.out]), hB0.out⟩
 (refine BigFrame.wpList_want rfl ?_; intro K hK; replace hK := Lib.hid hK; go_wp2_with fail; refine hK.out _ _ ?_; clear hK K) -- 31
 skip
 (refine BigFrame.wpList_want rfl ?_; intro K hK; replace hK := Lib.hid hK; go_wp2_with fail; refine hK.out _ _ ?_; clear hK K) -- 32
 (refine BigFrame.wpList_want rfl ?_; intro K hK; replace hK := Lib.hid hK; go_wp2_with fail; refine hK.out _ _ ?_; clear hK K) -- 33
 (refine BigFrame.wpList_want rfl ?_; intro K hK; replace hK := Lib.hid hK; go_wp2_with fail; refine hK.out _ _ ?_; clear hK K) -- 34
 refine wpList_load_part_w rfl 35 _ rfl n 5 rfl (rqC a.rq) (fun j v hv => hA.out.get (ms_rq hv)) _ Try.underlying35 rfl (rq_size _) ?_
 go_simp
 (refine BigFrame.wpList_want rfl ?_; intro K hK; replace hK := Lib.hid hK; go_wp2_with fail; refine hK.out _ _ ?_; clear hK K) -- 36
 refine wpList_load_part_w rfl 35 _ rfl n1 5 rfl (rqC b.rq) (fun j v hv => hB.out.get (ms_rq hv)) _ Try.underlying35 rfl (rq_size _) ?_
 go_simp
 by_cases h5 : rqB a.rq b.rq = true
 case neg =>
  rw [Bool.not_eq_true] at h5
  have hs := Lib.hid (show sameB a b = false by simp [sameB, h0, h1, h2, h3, h4, h5])
  replace eR := eR.out
  simp only [h5] at eR
  go_wp2
  go_ret
  exact ⟨ret_bool (by rw [hs.out]), hB0.out⟩
 replace eR := eR.out
 simp only [h5] at eR
 (refine BigFrame.wpList_want rfl ?_; intro K hK; replace hK := Lib.hid hK; go_wp2_with fail; refine hK.out _ _ ?_; clear hK K) -- 38
 skip
 (refine BigFrame.wpList_want rfl ?_; intro K hK; replace hK := Lib.hid hK; go_wp2_with fail; refine hK.out _ _ ?_; clear hK K) -- 39
 (refine BigFrame.wpList_want rfl ?_; intro K hK; replace hK := Lib.hid hK; go_wp2_with fail; refine hK.out _ _ ?_; clear hK K) -- 40
 (refine BigFrame.wpList_want rfl ?_; intro K hK; replace hK := Lib.hid hK; go_wp2_with fail; refine hK.out _ _ ?_; clear hK K) -- 41
 refine wpList_load_part_w rfl 37 _ rfl n 15 rfl (a.dig.map u8V) (fun j v hv => hA.out.get (ms_dig hv)) _ Try.underlying37 rfl sa.out ?_
 go_simp
 (refine BigFrame.wpList_want rfl ?_; intro K hK; replace hK := Lib.hid hK; go_wp2_with fail; refine hK.out _ _ ?_; clear hK K) -- 43
 refine wpList_load_part_w rfl 37 _ rfl n1 15 rfl (b.dig.map u8V) (fun j v hv => hB.out.get (ms_dig hv)) _ Try.underlying37 rfl sb.out ?_
 go_simp
 by_cases h6 : (a.dig == b.dig) = true
 case neg =>
  rw [Bool.not_eq_true] at h6
  have hs := Lib.hid (show sameB a b = false by simp [sameB, h0, h1, h2, h3, h4, h5, h6])
  replace eD := eD.out
  simp only [h6] at eD
  go_wp2
  go_ret
  exact ⟨ret_bool (by rw [hs.out]), hB0.out⟩
 replace eD := eD.out
 simp only [h6] at eD
 (refine BigFrame.wpList_want rfl ?_; intro K hK; replace hK := Lib.hid hK; go_wp2_with fail; refine hK.out _ _ ?_; clear hK K) -- 45
 skip
 (refine BigFrame.wpList_want rfl ?_; intro K hK; replace hK := Lib.hid hK; go_wp2_with fail; refine hK.out _ _ ?_; clear hK K) -- 46
 (refine BigFrame.wpList_want rfl ?_; intro K hK; replace hK := Lib.hid hK; go_wp2_with fail; refine hK.out _ _ ?_; clear hK K) -- 47
 (refine BigFrame.wpList_want rfl ?_; intro K hK; replace hK := Lib.hid hK; go_wp2_with fail; refine hK.out _ _ ?_; clear hK K) -- 48
 (refine BigFrame.wpList_want rfl ?_; intro K hK; replace hK := Lib.hid hK; go_wp2_with fail; refine hK.out _ _ ?_; clear hK K) -- 49
 (refine BigFrame.wpList_want rfl ?_; intro K hK; replace hK := Lib.hid hK; go_wp2_with fail; refine hK.out _ _ ?_; clear hK K) -- 50
 (refine BigFrame.wpList_want rfl ?_; intro K hK; replace hK := Lib.hid hK; go_wp2_with fail; refine hK.out _ _ ?_; clear hK K) -- 51
 by_cases h7 : (a.marks == b.marks) = true
 case neg =>
  rw [Bool.not_eq_true] at h7
  have hs := Lib.hid (show sameB a b = false by simp [sameB, h0, h1, h2, h3, h4, h5, h6, h7])
  go_wp2_with fail
  refine hm1.out.mono ?_
  rintro e w3 ⟨rfl, hb3⟩
  rw [h7]
  go_wp2
  go_ret
  exact ⟨ret_bool (by rw [hs.out]), hB0.out.trans (hb3.mono hB0.out.size)⟩
 (refine BigFrame.wpList_want rfl ?_; intro K hK; replace hK := Lib.hid hK; go_wp2_with fail)
 refine hm1.out.mono ?_
 rintro e w3 ⟨rfl, hb3⟩
 rw [h7]
 go_wp2_with fail
 refine hK.out _ _ ?_
 clear hK K
 clear a_kind
 clear a_rnd
 clear a_car
 clear a_req
 clear a_rsv
 clear a_marks
 clear a_bid
 clear a_nonce
 replace hA := Lib.hid (hA.out.on hb3)
 have a_bid := hA.out.get (ms_bid ha.out.dig)
 have a_nonce := hA.out.get (ms_nonce ha.out.dig)
 clear b_kind
 clear b_rnd
 clear b_car
 clear b_req
 clear b_rsv
 clear b_marks
 clear b_bid
 clear b_nonce
 replace hB := Lib.hid (hB.out.on hb3)
 have b_bid := hB.out.get (ms_bid hb.out.dig)
 have b_nonce := hB.out.get (ms_nonce hb.out.dig)
 replace hB0 := Lib.hid (hB0.out.trans (hb3.mono hB0.out.size))
 clear hb3 hm1
 (refine BigFrame.wpList_want rfl ?_; intro K hK; replace hK := Lib.hid hK; go_wp2_with fail; refine hK.out _ _ ?_; clear hK K) -- 53
 (refine BigFrame.wpList_want rfl ?_; intro K hK; replace hK := Lib.hid hK; go_wp2_with fail; refine hK.out _ _ ?_; clear hK K) -- 54
 (refine BigFrame.wpList_want rfl ?_; intro K hK; replace hK := Lib.hid hK; go_wp2_with fail; refine hK.out _ _ ?_; clear hK K) -- 55
 (refine BigFrame.wpList_want rfl ?_; intro K hK; replace hK := Lib.hid hK; go_wp2_with fail; refine hK.out _ _ ?_; clear hK K) -- 56
 (refine BigFrame.wpList_want rfl ?_; intro K hK; replace hK := Lib.hid hK; go_wp2_with fail; refine hK.out _ _ ?_; clear hK K) -- 57
 (refine BigFrame.wpList_want rfl ?_; intro K hK; replace hK := Lib.hid hK; go_wp2_with fail; refine hK.out _ _ ?_; clear hK K) -- 58
 by_cases h8 : a.bid = b.bid
 case neg =>
  have j8 : ¬ (a.bid : Int) = (b.bid : Int) := by omega
  have hs := Lib.hid (show sameB a b = false by simp [sameB, h0, h1, h2, h3, h4, h5, h6, h7, h8])
  go_wp2
  go_ret
  exact ⟨ret_bool (by rw [hs.out]), hB0.out⟩
 (refine BigFrame.wpList_want rfl ?_; intro K hK; replace hK := Lib.hid hK; go_wp2_with fail; refine hK.out _ _ ?_; clear hK K) -- 59
 skip
 (refine BigFrame.wpList_want rfl ?_; intro K hK; replace hK := Lib.hid hK; go_wp2_with fail; refine hK.out _ _ ?_; clear hK K) -- 60
 (refine BigFrame.wpList_want rfl ?_; intro K hK; replace hK := Lib.hid hK; go_wp2_with fail; refine hK.out _ _ ?_; clear hK K) -- 61
 (refine BigFrame.wpList_want rfl ?_; intro K hK; replace hK := Lib.hid hK; go_wp2_with fail; refine hK.out _ _ ?_; clear hK K) -- 62
 (refine BigFrame.wpList_want rfl ?_; intro K hK; replace hK := Lib.hid hK; go_wp2_with fail; refine hK.out _ _ ?_; clear hK K) -- 63
 (refine BigFrame.wpList_want rfl ?_; intro K hK; replace hK := Lib.hid hK; go_wp2_with fail; refine hK.out _ _ ?_; clear hK K) -- 64
 (refine BigFrame.wpList_want rfl ?_; intro K hK; replace hK := Lib.hid hK; go_wp2_with fail; refine hK.out _ _ ?_; clear hK K) -- 65
 by_cases h9 : a.nonce = b.nonce
 case neg =>
  have j9 : ¬ (a.nonce : Int) = (b.nonce : Int) := by omega
  have hs := Lib.hid (show sameB a b = false by simp [sameB, h0, h1, h2, h3, h4, h5, h6, h7, h8, h9])
  go_wp2
  go_ret
  exact ⟨ret_bool (by rw [hs.out]), hB0.out⟩
 (refine BigFrame.wpList_want rfl ?_; intro K hK; replace hK := Lib.hid hK; go_wp2_with fail; refine hK.out _ _ ?_; clear hK K) -- 66
 skip
 (refine BigFrame.wpList_want rfl ?_; intro K hK; replace hK := Lib.hid hK; go_wp2_with fail; refine hK.out _ _ ?_; clear hK K) -- 67
 (refine BigFrame.wpList_want rfl ?_; intro K hK; replace hK := Lib.hid hK; go_wp2_with fail; refine hK.out _ _ ?_; clear hK K) -- 68
 (refine BigFrame.wpList_want rfl ?_; intro K hK; replace hK := Lib.hid hK; go_wp2_with fail; refine hK.out _ _ ?_; clear hK K) -- 69
 refine wpList_load_part_w rfl 40 _ rfl n 50 rfl (ocC a.oc) (fun j v hv => hA.out.get (ms_oc ha.out.dig hv)) _ Try.underlying40 rfl (oc_size _) ?_
 go_simp
 (refine BigFrame.wpList_want rfl ?_; intro K hK; replace hK := Lib.hid hK; go_wp2_with fail; refine hK.out _ _ ?_; clear hK K) -- 71
 refine wpList_load_part_w rfl 40 _ rfl n1 50 rfl (ocC b.oc) (fun j v hv => hB.out.get (ms_oc hb.out.dig hv)) _ Try.underlying40 rfl (oc_size _) ?_
 go_simp
 by_cases h10 : ocE a.oc b.oc = true
 case neg =>
  rw [Bool.not_eq_true] at h10
  have hs := Lib.hid (show sameB a b = false by simp [sameB, h0, h1, h2, h3, h4, h5, h6, h7, h8, h9, h10])
  replace eO := eO.out
  simp only [h10] at eO
  go_wp2
  go_ret
  exact ⟨ret_bool (by rw [hs.out]), hB0.out⟩
 replace eO := eO.out
 simp only [h10] at eO
 (refine BigFrame.wpList_want rfl ?_; intro K hK; replace hK := Lib.hid hK; go_wp2_with fail; refine hK.out _ _ ?_; clear hK K) -- 73
 skip
 (refine BigFrame.wpList_want rfl ?_; intro K hK; replace hK := Lib.hid hK; go_wp2_with fail; refine hK.out _ _ ?_; clear hK K) -- 74
 (refine BigFrame.wpList_want rfl ?_; intro K hK; replace hK := Lib.hid hK; go_wp2_with fail; refine hK.out _ _ ?_; clear hK K) -- 75
 have hs := Lib.hid (show sameB a b = true by simp [sameB, h0, h1, h2, h3, h4, h5, h6, h7, h8, h9, h10])
 go_wp2
 go_ret
 exact ⟨ret_bool (by rw [hs.out]), hB0.out⟩
end Go.Proofs.Ytpefdmkfmcjfnaa.Ms

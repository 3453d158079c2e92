import Derived.Test.YtpefdmkfmcjfnaaPkFrLay
import Derived.Test.YtpefdmkfmcjfnaaPkMsPMay

namespace Go.Proofs.Ytpefdmkfmcjfnaa.Ms
open Go.Proofs.Ytpefdmkfmcjfnaa.Oct
set_option linter.unusedVariables false
theorem ofNat_m (k : Nat) : UInt8.ofNat (k % 256) = UInt8.ofNat k := by
 apply UInt8.toNat_inj.1
 rw [UInt8.toNat_ofNat', UInt8.toNat_ofNat']
 omega
theorem frameL_eq (k : Nat) (b : Bs) : frameL k b = Fr.frL k b := by
 simp only [frameL, Fr.frL, laidL, List.cons_append, List.nil_append]
 simp [ofNat_m]
end Go.Proofs.Ytpefdmkfmcjfnaa.Ms
namespace Go.Proofs.Ytpefdmkfmcjfnaa.Mp
open Go.RowKit Go.Sort Go.Proofs.Ytpefdmkfmcjfnaa.Mem Go.Proofs.Ytpefdmkfmcjfnaa.Route Go.Proofs.Ytpefdmkfmcjfnaa.Oct Go.Proofs.Ytpefdmkfmcjfnaa.Ms Go.Proofs.Ytpefdmkfmcjfnaa.Part
set_option linter.unusedVariables false
theorem less_slice (m : Ms) (x : Option Addr) (N cap : Nat) (h : m.marks.length = N) : ∃ y K c, lessV m (.slice x N cap) = .slice y K c ∧ (lessM m).marks.length = K := by
 unfold lessV lessM
 by_cases h3 : m.kind = 3
 · rw [if_pos h3, if_neg (by omega), if_neg (by omega), if_pos h3]
   exact ⟨none, 0, 0, rfl, rfl⟩
 · rw [if_neg h3]
   refine ⟨x, N, cap, rfl, ?_⟩
   split
   · exact h
   split
   · exact h
   split
   · exact h
   split
   · exact h
   · exact h
set_option maxRecDepth 100000 in
set_option maxHeartbeats 16000000 in
theorem may_any (m : Ms) (x : Option Addr) (N cap : Nat) (hm : m.ok) (w : World) (hM : MarksAt w.heap.size w (.slice x N cap) m.marks) :
 Calls Try.prog 27 #[.agg (msC m (.slice x N cap)).toArray] w fun e w' => e = .returned (.bool (mayB m)) ∧ Below w.heap.size w w' := by
 have hN := marks_len hM
 have hA : AtL (w.alloc (.cells (msC m (.slice x N cap)).toArray 42)) w.heap.size 42 (msC m (.slice x N cap)) := AtL.new w _ _
 have hB : Below w.heap.size w (w.alloc (.cells (msC m (.slice x N cap)).toArray 42)) := (Below.refl _ _).alloc (Nat.le_refl _) _
 have hM1 := (hM.keep hB (Nat.le_refl _)).more hB.size
 have hs0 := may_is m
 obtain ⟨V, hV⟩ : ∃ V, mayB m = V := ⟨_, rfl⟩
 rw [hV] at hs0 ⊢
 clear hV
 go_enter Try.func27, Try.ntmps27
 go_upto_region 1 with fail
 obtain ⟨n, hn⟩ : ∃ n, w.heap.size = n := ⟨_, rfl⟩
 generalize w.alloc (.cells (msC m (.slice x N cap)).toArray 42) = W at hA hB hM1 ⊢
 rw [hn] at hA
 try simp only [hn]
 replace hn := Lib.hid hn
 have c1 := hA.get ms_rnd
 have b1 := fun W => between_any m.rnd 0 15 W
 obtain ⟨B1, e1⟩ : ∃ B, betB m.rnd 0 15 = B := ⟨_, rfl⟩
 rw [e1] at hs0
 simp only [e1] at b1
 replace b1 := Lib.hid b1
 replace hs0 := Lib.hid hs0
 clear e1
 replace hA := Lib.hid hA
 replace hB := Lib.hid hB
 replace hM1 := Lib.hid hM1
 replace hm := Lib.hid hm
 cases B1
 · have hs := Lib.hid (show V = false from hs0.out.symm)
   go_wp2_with fail
   refine (b1.out _).mono ?_
   rintro e w1 ⟨rfl, rfl⟩
   go_wp2
   go_ret
   exact ⟨ret_bool (by rw [hs.out]), hB.out⟩
 have t1 := isAsTable_any m x N cap hm.out W hM1.out
 obtain ⟨B2, e2⟩ : ∃ B, tabB m = B := ⟨_, rfl⟩
 rw [e2] at t1
 replace t1 := Lib.hid t1
 have hs1 := Lib.hid (show (B2 && blankB (lessM m)) = V by rw [← e2]; exact hs0.out)
 have hi53 := Lib.hid (show (Try.prog.info? 42).map (·.size) = some (msC m (.slice x N cap)).length by rw [msC_len hm.out.dig]; kernel_rfl)
 clear e2
 refine wp_region_list ?_
 (refine BigFrame.wpList_want rfl ?_; intro K hK; replace hK := Lib.hid hK; go_wp2_with fail; refine hK.out _ _ ?_; clear hK K) -- 0
 (refine BigFrame.wpList_want rfl ?_; intro K hK; replace hK := Lib.hid hK; go_wp2_with fail; refine hK.out _ _ ?_; clear hK K) -- 1
 (refine BigFrame.wpList_want rfl ?_; intro K hK; replace hK := Lib.hid hK; go_wp2_with fail)
 refine (b1.out _).mono ?_
 rintro e W0 ⟨rfl, rfl⟩
 go_wp2_with fail
 refine hK.out _ _ ?_
 clear hK K
 (refine BigFrame.wpList_want rfl ?_; intro K hK; replace hK := Lib.hid hK; go_wp2_with fail; refine hK.out _ _ ?_; clear hK K) -- 3
 refine wpList_load_part_w rfl 42 _ rfl n 0 rfl (msC m (.slice x N cap)) (fun j v hv => by rw [Nat.zero_add]; exact hA.out.get hv) _ Try.underlying42 rfl hi53.out ?_
 go_simp
 (refine BigFrame.wpList_want rfl ?_; intro K hK; replace hK := Lib.hid hK; go_wp2_with fail)
 refine (t1.out).mono ?_
 rintro e W1 ⟨rfl, hb1⟩
 go_wp2_with fail
 refine hK.out _ _ ?_
 clear hK K
 cases B2
 · have hs := Lib.hid (show V = false from hs1.out.symm)
   go_wp2
   go_ret
   exact ⟨ret_bool (by rw [hs.out]), hB.out.trans (hb1.mono hB.out.size)⟩
 have hs2 := Lib.hid (show blankB (lessM m) = V from hs1.out)
 have hA1 := Lib.hid (hA.out.on hb1)
 have hB1 := Lib.hid (hB.out.trans (hb1.mono hB.out.size))
 have w1c := Lib.hid (without_any m x N cap hm.out W1)
 clear hs0 hs1 hA hB hb1 t1 b1 hM1
 (refine BigFrame.wpList_want rfl ?_; intro K hK; replace hK := Lib.hid hK; go_wp2_with fail; refine hK.out _ _ ?_; clear hK K) -- 6
 (refine BigFrame.wpList_want rfl ?_; intro K hK; replace hK := Lib.hid hK; go_wp2_with fail; refine hK.out _ _ ?_; clear hK K) -- 7
 refine wpList_load_part_w rfl 42 _ rfl n 0 rfl (msC m (.slice x N cap)) (fun j v hv => by rw [Nat.zero_add]; exact hA1.out.get hv) _ Try.underlying42 rfl hi53.out ?_
 go_simp
 (refine BigFrame.wpList_want rfl ?_; intro K hK; replace hK := Lib.hid hK; go_wp2_with fail)
 refine (w1c.out).mono ?_
 rintro e W2 ⟨rfl, hb2⟩
 go_wp2_with fail
 refine hK.out _ _ ?_
 clear hK K
 obtain ⟨y, K1, c, hye, hyl⟩ := less_slice m x N cap hN
 rw [hye]
 have bl := isBlank_any (lessM m) y K1 c (less_ok hm.out) hyl W2
 rw [hs2.out] at bl
 replace bl := Lib.hid bl
 have hB2 := Lib.hid (hB1.out.trans (hb2.mono hB1.out.size))
 replace hye := Lib.hid hye
 replace hyl := Lib.hid hyl
 clear hB1 hb2 w1c hA1
 (refine BigFrame.wpList_want rfl ?_; intro K hK; replace hK := Lib.hid hK; go_wp2_with fail)
 refine (bl.out).mono ?_
 rintro e W3 ⟨rfl, hb3⟩
 go_wp2_with fail
 refine hK.out _ _ ?_
 clear hK K
 go_wp2
 go_ret
 exact ⟨rfl, hB2.out.trans (hb3.mono hB2.out.size)⟩
theorem is_i {o : Nat} {k n : Int} {cs : List Value} (h : cs[o]? = some (.int .i64 n)) : Is (o, Kd.i, k) cs := ⟨n, h, fun e => by cases e⟩
theorem is_u {o : Nat} {k : Int} {n : Nat} {cs : List Value} (h : cs[o]? = some (.int .u64 (n : Int))) (hn : n < 18446744073709551616) : Is (o, Kd.u, k) cs := ⟨n, h, fun _ => by omega⟩
theorem typed_ms (k : Int) {m : Ms} {v : Value} (hm : m.ok) (hw : m.wide) : Typed (walkF k) (msC m v) := by
 intro x hx
 unfold walkF at hx
 split at hx
 · simp only [List.mem_append, rqF, List.mem_cons, List.not_mem_nil, or_false] at hx
   rcases hx with rfl | rfl | rfl | rfl | rfl | rfl | rfl | rfl | rfl | rfl | rfl | rfl
   all_goals exact is_i rfl
 split at hx
 · simp only [List.mem_append, List.mem_singleton, digF, List.mem_map, List.mem_range] at hx
   rcases hx with rfl | ⟨j, hj, rfl⟩
   · exact is_i rfl
   · obtain ⟨d, hd⟩ : ∃ d, m.dig[j]? = some d := ⟨_, List.getElem?_eq_getElem (by rw [hm.dig]; exact hj)⟩
     exact ⟨(d.toNat : Int), ms_dig (x := u8V d) (by rw [List.getElem?_map, hd]; rfl), fun e => by simp at e⟩
 split at hx
 · simp only [List.mem_append, List.mem_singleton] at hx
   rcases hx with rfl | rfl | rfl
   · exact is_i rfl
   · exact is_u (ms_bid hm.dig) hw.bid
   · exact is_u (ms_nonce hm.dig) hw.nonce
 · cases hx
theorem walk_wr (m : Ms) (x : Option Addr) (N cap B n p : Nat) (hm : m.ok) (hw : m.wide) (h : mayB m = true) (w : World) (hM : MarksAt B w (.slice x N cap) m.marks) (hA : AtL w n 42 (msC m (.slice x N cap))) (hW : WrAt w p []) (hnp : n ≠ p) (hBn : B ≤ n) (hBp : B ≤ p) :
 Calls Try.prog 28 #[.iface 73 (.pointer (some ⟨p, 0, none⟩)), .pointer (some ⟨n, 0, none⟩)] w fun e w' => e = .returned (.tuple #[]) ∧ WrAt w' p (bodyL m) ∧ (∃ cs, AtL w' n 42 cs ∧ cs[0]? = some (.int .i64 m.kind)) ∧ Two p n w w' := by
 have hAt : ∀ b : Nat, b ≤ 281474976710000 → (Wr p).At b ([] : Bs) w := fun b hb => ⟨hW, by simpa using hb⟩
 have hNl := marks_len hM
 have hr : Is (1, Kd.i, 1) (msC m (.slice x N cap)) := is_i rfl
 by_cases h3 : m.kind = 3
 · obtain ⟨w1, w2, w3, w4⟩ := wr_mark p (v := .slice x N cap) hm h h3
   rw [hNl] at w2 w3 w4
   have hs : ((Wr p).step ((Wr p).one (1, Kd.i, 1) (msC m (.slice x N cap), ([] : Bs))).2 (toU (N : Int)) 1) = (N, lay1 m.rnd 1 ++ laidL N 1) := by rw [w1]; exact w2
   refine (walk_marks N (Wr p) (Wr_fits p) n 0 42 (msC m (.slice x N cap), ([] : Bs)) m.kind w (hAt _ (by omega)) hA rfl hnp hr h3 B x N cap m.marks (ms_marks hm.dig) (by rw [hs]) (by omega) hm.marks (.inr hNl) hM hBp (Nat.le_of_lt (Nat.lt_of_le_of_lt hBp hW.inside)) hBn).mono ?_
   rintro e w' ⟨rfl, u, M, h1, h2, h3', h4⟩
   refine ⟨rfl, ?_, ⟨_, h3', ?_⟩, h4⟩
   · have := h1.2.2
     rw [hs] at this
     have hst : startM m.marks N = m.marks := by simp [startM, hNl]
     rw [hst] at this
     have h5 := this.1
     rw [w3] at h5
     exact h5
   · rw [List.getElem?_set_ne (by decide), w1]
     rfl
 by_cases h5 : m.kind = 5
 · refine (walk_out (Wr p) (Wr_fits p) n 0 42 (msC m (.slice x N cap), ([] : Bs)) m.kind w (hAt _ (by omega)) hA rfl hnp hr m.oc.wn h5 (is_i (ms_st hm.dig)) (ms_wn hm.dig) (is_u (ms_pr hm.dig) hw.pr)).mono ?_
   rintro e w' ⟨rfl, hD⟩
   have hq := wr_out p (v := .slice x N cap) hm hw h h5
   have h1 := hD.st
   have h2 := hD.cs
   rw [hq] at h1 h2
   exact ⟨rfl, h1.1, ⟨_, h2, rfl⟩, hD.two⟩
 · refine (walk_flat (Wr p) (Wr_fits p) n 0 42 (msC m (.slice x N cap), ([] : Bs)) m.kind w (hAt _ (by omega)) hA rfl hnp hr h3 h5 (typed_ms m.kind hm hw)).mono ?_
   rintro e w' ⟨rfl, hD⟩
   have hq := wr_flat p (v := .slice x N cap) hm hw h h3 h5
   have h1 := hD.st
   have h2 := hD.cs
   rw [hq] at h1 h2
   exact ⟨rfl, h1.1, ⟨_, h2, rfl⟩, hD.two⟩
set_option maxRecDepth 100000 in
set_option maxHeartbeats 16000000 in
theorem Encode_any (m : Ms) (x : Option Addr) (N cap : Nat) (hm : m.ok) (hw : m.wide) (w : World) (hM : MarksAt w.heap.size w (.slice x N cap) m.marks) :
 Calls Try.prog 17 #[.agg (msC m (.slice x N cap)).toArray] w fun e w' => e = .returned (.tuple #[.string (str (encL m)), .int .i64 (encE m)]) ∧ Below w.heap.size w w' := by
 have hA : AtL (w.alloc (.cells (msC m (.slice x N cap)).toArray 42)) w.heap.size 42 (msC m (.slice x N cap)) := AtL.new w _ _
 have hB : Below w.heap.size w (w.alloc (.cells (msC m (.slice x N cap)).toArray 42)) := (Below.refl _ _).alloc (Nat.le_refl _) _
 obtain ⟨L, hL⟩ : ∃ L, encL m = L := ⟨_, rfl⟩
 obtain ⟨E, hE⟩ : ∃ E, encE m = E := ⟨_, rfl⟩
 rw [hL, hE]
 replace hL := Lib.hid hL
 replace hE := Lib.hid hE
 go_enter Try.func17, Try.ntmps17
 go_upto_region 1 with fail
 have hM1 := hM.keep hB (Nat.le_refl _)
 obtain ⟨n, hn⟩ : ∃ n, w.heap.size = n := ⟨_, rfl⟩
 generalize w.alloc (.cells (msC m (.slice x N cap)).toArray 42) = W at hA hB hM1 ⊢
 rw [hn] at hA hM1
 try simp only [hn]
 have hnW := hA.inside
 replace hn := Lib.hid hn
 have hmay := may_any m x N cap hm W (hM1.more (Nat.le_of_lt hnW))
 have hi53 := Lib.hid (show (Try.prog.info? 42).map (·.size) = some (msC m (.slice x N cap)).length by rw [msC_len hm.dig]; kernel_rfl)
 have hld := Lib.hid (fun j v (hv : (msC m (.slice x N cap))[j]? = some v) => (show W.cell? ⟨n, 0 + j, none⟩ = some v by rw [Nat.zero_add]; exact hA.get hv))
 obtain ⟨V, hV⟩ : ∃ V, mayB m = V := ⟨_, rfl⟩
 rw [hV] at hmay
 replace hA := Lib.hid hA
 replace hB := Lib.hid hB
 replace hM1 := Lib.hid hM1
 go_wp2_with (refine wpList_load_part rfl 42 _ rfl n 0 rfl (msC m (.slice x N cap)) hld.out _ Try.underlying42 rfl hi53.out ?_)
 refine hmay.mono ?_
 rintro e W2 ⟨rfl, hb2⟩
 have hB2 := Lib.hid (hB.out.trans (hb2.mono hB.out.size))
 cases V
 · have e1 : L = [] := by rw [← hL.out, encL, if_neg (by rw [hV]; decide)]
   have e2 : E = 15 := by rw [← hE.out, encE, if_neg (by rw [hV]; decide)]
   subst e1 e2
   clear hld hmay
   go_wp2
   go_ret2
   exact ⟨rfl, hB2.out⟩
 have hA2 := hA.out.on hb2
 have hM2 := hM1.out.keep hb2 (Nat.le_of_lt hnW)
 have hnW2 := hA2.inside
 have hW3 := At.new W2 75 #[.string (str [])]
 have hB3 : Below W2.heap.size W2 (W2.alloc (.cells #[.string (str [])] 75)) := (Below.refl _ _).alloc (Nat.le_refl _) _
 clear hld hmay hb2 hA hB hM1
 replace hA2 := Lib.hid hA2
 replace hM2 := Lib.hid hM2
 replace hW3 := Lib.hid hW3
 replace hB3 := Lib.hid hB3
 go_upto_region 4 with fail
 rw [show ({ data := #[] } : ByteArray) = str [] from rfl]
 obtain ⟨p, hp⟩ : ∃ p, W2.heap.size = p := ⟨_, rfl⟩
 have hW3 := hW3.out
 have hB3 := hB3.out
 rw [hp] at hW3 hB3 hnW2
 try simp only [hp]
 generalize W2.alloc (.cells #[.string (str [])] 75) = W3 at hW3 hB3 ⊢
 have hA3 := hA2.out.keep hB3 hnW2
 have hnp : n ≠ p := by omega
 have hM3 := hM2.out.keep hB3 (Nat.le_of_lt hnW2)
 have hw3 := walk_wr m x N cap n n p hm hw hV W3 hM3 hA3 hW3 hnp (Nat.le_refl _) (Nat.le_of_lt hnW2)
 have hB4 := Lib.hid (hB2.out.trans (hB3.mono (by rw [← hp]; exact hB2.out.size)))
 have hzB := hB2.out.size
 rw [hp] at hzB
 have e1 := Lib.hid (show L = Fr.frL m.kind.toNat (bodyL m) by rw [← hL.out, encL, if_pos hV, frameL_eq])
 have e2 : E = 0 := by rw [← hE.out, encE, if_pos hV]
 subst e2
 obtain ⟨⟨k1, k5, -, -⟩, -, -⟩ := may_parts hV
 have hbl := body_len hm (may_fits hV hw)
 obtain ⟨b, hb⟩ : ∃ b, bodyL m = b := ⟨_, rfl⟩
 rw [hb] at hw3 e1 hbl
 obtain ⟨k, hk⟩ : ∃ k : Nat, m.kind = (k : Int) := ⟨m.kind.toNat, by omega⟩
 have hk2 : m.kind.toNat = k := by omega
 rw [hk] at hw3
 rw [hk2] at e1
 replace hw3 := Lib.hid hw3
 replace hp := Lib.hid hp
 have hk6 : k < 256 := by omega
 clear hA2 hA3 hM2 hM3 hW3 hB3 hB2 hk hk2 k1 k5 hb hV
 go_wp2_with fail
 refine hw3.out.mono ?_
 rintro e W4 ⟨rfl, hW4, ⟨cs, hA4, h0⟩, ht4⟩
 have hB5 := Lib.hid (hB4.out.trans (ht4.below (B := w.heap.size) hzB (by rw [hn.out]; exact Nat.le_refl _) hB4.out.size))
 have hz4 := hB5.out.size
 have cL := fun d os => Calls.regrown_of (Fr.Lay_ok k b hk6 (by omega) (grow (redrawn W4 d) os))
 have c0 := cell_regrown (hA4.get h0)
 have c1 := cell_regrown (show W4.cell? ⟨p, 0, none⟩ = some (.string (str b)) by rw [At.cell hW4 0]; rfl)
 clear hw3 hB4 hA4 hW4 ht4 h0
 go_upto_region 5 with fail
 refine wp_region_quiet_below (by kernel_rfl) (by kernel_rfl) ?_
 repeat (go_big_quiet_step (first | with_reducible exact cL _ _))
 refine wpQuiet_nil ?_
 rintro W5' ⟨⟨d, os⟩, rfl⟩
 have hB6 := Lib.hid (hB5.out.trans ((below_regrown W4 d os).mono hz4))
 dsimp only
 clear hB5 cL c0 c1
 generalize grow (redrawn W4 d) os = W5 at hB6 ⊢
 go_wp2
 go_ret2
 exact ⟨Ms.ret_si (by rw [e1.out]) rfl, hB6.out⟩
end Go.Proofs.Ytpefdmkfmcjfnaa.Mp

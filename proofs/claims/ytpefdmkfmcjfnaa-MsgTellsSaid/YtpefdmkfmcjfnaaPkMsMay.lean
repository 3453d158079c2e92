import Derived.Test.YtpefdmkfmcjfnaaPkOrderChkRef
import Derived.Test.YtpefdmkfmcjfnaaPkMsBare

namespace Go.Proofs.Ytpefdmkfmcjfnaa.Ms
open Go.RowKit Go.Sort Go.Proofs.Ytpefdmkfmcjfnaa.Mem Go.Proofs.Ytpefdmkfmcjfnaa.Route Go.Proofs.Ytpefdmkfmcjfnaa.Oct Go.Proofs.Ytpefdmkfmcjfnaa.Part Go.Proofs.Ytpefdmkfmcjfnaa.Dr
set_option linter.unusedVariables false
theorem bare_ok {m : Ms} (h : m.ok) : (bareM m).ok := by
 unfold bareM
 split
 · exact ⟨rfl, fun p hp => by cases hp⟩
 split
 · exact ⟨h.dig, fun p hp => by cases hp⟩
 split
 · exact ⟨rfl, h.marks⟩
 split
 · exact ⟨rfl, fun p hp => by cases hp⟩
 split
 · exact ⟨rfl, fun p hp => by cases hp⟩
 · exact ⟨rfl, fun p hp => by cases hp⟩
theorem bare_marks (m : Ms) : (bareM m).marks = if m.kind = 3 then m.marks else [] := by
 unfold bareM
 split
 · rename_i h; rw [if_neg (by omega)]; rfl
 split
 · rename_i h; rw [if_neg (by omega)]; rfl
 split
 · rfl
 split
 · rfl
 split
 · rfl
 · rfl
theorem whole_ms {w : World} {g : Nat} {m : Ms} {v : Value} (h : AtL w g 42 (msC m v)) : ∀ j u, (msC m v)[j]? = some u → w.cell? ⟨g, 0 + j, none⟩ = some u := fun j u hu => by rw [Nat.zero_add]; exact h.get hu
theorem ms_size {m : Ms} {v : Value} (h : m.dig.length = 32) : (Try.prog.info? 42).map (·.size) = some (msC m v).length := by rw [msC_len h]; kernel_rfl
def headB (m : Ms) : Bool := decide (1 ≤ m.kind ∧ m.kind ≤ 5 ∧ 0 ≤ m.rnd ∧ m.rnd < 16) && sameB m (bareM m)
theorem may_head (m : Ms) : mayB m = (headB m && kindB m) := by simp [mayB, headB, Bool.and_assoc]
theorem markB_at {l : List (Int × Bs)} {i : Nat} {q : Int × Bs} (h : l[i]? = some q) : markB l i = (carB q.1 && (decide (i = 0) || decide ((l.getD (i - 1) (0, [])).1 < q.1))) := by simp [markB, h]
theorem markB_zero {l : List (Int × Bs)} {q : Int × Bs} (h : l[0]? = some q) : markB l 0 = carB q.1 := by rw [markB_at h]; simp
theorem markB_succ {l : List (Int × Bs)} {k : Nat} {q r : Int × Bs} (h : l[k + 1]? = some q) (h' : l[k]? = some r) : markB l (k + 1) = (carB q.1 && decide (r.1 < q.1)) := by rw [markB_at h]; simp [h']
set_option maxRecDepth 100000 in
set_option maxHeartbeats 16000000 in
theorem may_any (m : Ms) (x : Option Addr) (Nn cp : Nat) (hm : m.ok) (w : World) (hM : MarksAt w.heap.size w (.slice x Nn cp) m.marks) :
 Calls Try.prog 32 #[.agg (msC m (.slice x Nn cp)).toArray] w fun e w' => e = .returned (.bool (mayB m)) ∧ Below w.heap.size w w' := by
 obtain ⟨n, hn⟩ : ∃ n, w.heap.size = n := ⟨_, rfl⟩
 have hA : AtL (w.alloc (.cells (msC m (.slice x Nn cp)).toArray 42)) w.heap.size 42 (msC m (.slice x Nn cp)) := AtL.new w _ _
 have hB0 : Below w.heap.size w (w.alloc (.cells (msC m (.slice x Nn cp)).toArray 42)) := (Below.refl _ _).alloc (Nat.le_refl _) _
 have hz0 : n < (w.alloc (.cells (msC m (.slice x Nn cp)).toArray 42)).heap.size := by simp; omega
 have hM1 := RowB.keep hM hB0 (Nat.le_refl _)
 have hNm := marks_max hM
 have hNl := marks_len hM
 obtain ⟨R, hR⟩ : ∃ R, mayB m = R := ⟨_, rfl⟩
 rw [hR]
 have hRh := Lib.hid (show R = (headB m && kindB m) by rw [← hR, may_head])
 replace hR := Lib.hid hR
 rw [hn] at hA hB0 hM1 hM ⊢
 go_enter Try.func32, Try.ntmps32
 go_upto_region 1 with fail
 generalize w.alloc (.cells (msC m (.slice x Nn cp)).toArray 42) = W1 at *
 replace hn := Lib.hid hn
 replace hNl := Lib.hid hNl
 obtain ⟨vv, hvv⟩ : ∃ vv, (if m.kind = 3 then .slice x Nn cp else nilS) = vv := ⟨_, rfl⟩
 have hsb := Lib.hid (And.intro hm (bare_ok hm))
 have hbm := Lib.hid (show ∀ W, Below n W1 W → MarksAt n W vv (bareM m).marks from fun W hW => by
  rw [bare_marks, ← hvv]
  split
  · exact RowB.keep hM1 hW (Nat.le_refl _)
  · exact .nil _ _ _)
 have hbar := Lib.hid (show ∀ W, Calls Try.prog 47 #[.agg (msC m (.slice x Nn cp)).toArray] W fun e w' => e = .returned (.agg (msC (bareM m) vv).toArray) ∧ Below W.heap.size W w' from fun W => by
  have := bare_any m x Nn cp hm W
  rwa [hvv] at this)
 replace hvv := Lib.hid hvv
 have k0 := cell_regrown (hA.get ms_kind)
 have k1 := cell_regrown (hA.get ms_rnd)
 have hld := Lib.hid (show ∀ W, (∃ q : Regrown, W = grow (redrawn W1 q.d) q.os) → ∀ j u, (msC m (.slice x Nn cp))[j]? = some u → W.cell? ⟨n, 0 + j, none⟩ = some u by
  rintro W ⟨q, rfl⟩ j u hu
  exact cell_regrown (whole_ms hA j u hu) q.d q.os)
 have hsz := Lib.hid (ms_size (m := m) (v := .slice x Nn cp) hm.dig)
 have cB := fun d os => Calls.regrown_of (hbar.out (grow (redrawn W1 d) os))
 have cS := fun d os => Calls.regrown_of (same_full m (bareM m) (.slice x Nn cp) vv hm hsb.out.2 (grow (redrawn W1 d) os) ((RowB.keep hM1 ((below_regrown W1 d os).mono (Nat.le_of_lt hz0)) (Nat.le_refl _)).more (Nat.le_trans (Nat.le_of_lt hz0) (below_regrown W1 d os).size)) (RowB.more (hbm.out _ ((below_regrown W1 d os).mono (Nat.le_of_lt hz0))) (Nat.le_trans (Nat.le_of_lt hz0) (below_regrown W1 d os).size)))
 replace hM1 := Lib.hid hM1
 replace hM := Lib.hid hM
 replace hB0 := Lib.hid hB0
 replace hA := Lib.hid hA
 by_cases q0 : 1 ≤ m.kind
 case neg =>
  have hs := Lib.hid (show R = false by rw [hRh.out, headB]; simp [q0])
  have nq : m.kind < 1 := by omega
  have u0 : decide (m.kind < 1) = true := decide_eq_true nq
  clear q0 nq
  go_upto_region 1 with fail
  refine wp_region_quiet_below (by kernel_rfl) (by kernel_rfl) ?_
  repeat (first | (refine wpQuiet_load_part_w rfl 42 _ rfl n 0 rfl (msC m (.slice x Nn cp)) hld.out _ Try.underlying42 rfl hsz.out ?_; go_simp) | go_big_quiet_step (first | with_reducible exact cB _ _ | with_reducible exact cS _ _))
  refine wpQuiet_nil ?_
  first | (rintro w2 ⟨⟨d, os⟩, rfl⟩) | (intro pq; obtain ⟨d, os⟩ := pq)
  have hB2 := Lib.hid (hB0.out.trans ((below_regrown W1 d os).mono (Nat.le_of_lt hz0)))
  dsimp only
  go_wp2
  go_ret
  exact ⟨ret_bool (by rw [hs.out]), hB2.out⟩
 have u0 : decide (m.kind < 1) = false := decide_eq_false (by omega)
 by_cases q1 : m.kind ≤ 5
 case neg =>
  have hs := Lib.hid (show R = false by rw [hRh.out, headB]; simp [q0, q1])
  have nq : 5 < m.kind := by omega
  have u1 : decide (5 < m.kind) = true := decide_eq_true nq
  clear q1 nq
  go_upto_region 1 with fail
  refine wp_region_quiet_below (by kernel_rfl) (by kernel_rfl) ?_
  repeat (first | (refine wpQuiet_load_part_w rfl 42 _ rfl n 0 rfl (msC m (.slice x Nn cp)) hld.out _ Try.underlying42 rfl hsz.out ?_; go_simp) | go_big_quiet_step (first | with_reducible exact cB _ _ | with_reducible exact cS _ _))
  refine wpQuiet_nil ?_
  first | (rintro w2 ⟨⟨d, os⟩, rfl⟩) | (intro pq; obtain ⟨d, os⟩ := pq)
  have hB2 := Lib.hid (hB0.out.trans ((below_regrown W1 d os).mono (Nat.le_of_lt hz0)))
  dsimp only
  go_wp2
  go_ret
  exact ⟨ret_bool (by rw [hs.out]), hB2.out⟩
 have u1 : decide (5 < m.kind) = false := decide_eq_false (by omega)
 by_cases q2 : 0 ≤ m.rnd
 case neg =>
  have hs := Lib.hid (show R = false by rw [hRh.out, headB]; simp [q0, q1, q2])
  have nq : m.rnd < 0 := by omega
  have u2 : decide (m.rnd < 0) = true := decide_eq_true nq
  clear q2 nq
  go_upto_region 1 with fail
  refine wp_region_quiet_below (by kernel_rfl) (by kernel_rfl) ?_
  repeat (first | (refine wpQuiet_load_part_w rfl 42 _ rfl n 0 rfl (msC m (.slice x Nn cp)) hld.out _ Try.underlying42 rfl hsz.out ?_; go_simp) | go_big_quiet_step (first | with_reducible exact cB _ _ | with_reducible exact cS _ _))
  refine wpQuiet_nil ?_
  first | (rintro w2 ⟨⟨d, os⟩, rfl⟩) | (intro pq; obtain ⟨d, os⟩ := pq)
  have hB2 := Lib.hid (hB0.out.trans ((below_regrown W1 d os).mono (Nat.le_of_lt hz0)))
  dsimp only
  go_wp2
  go_ret
  exact ⟨ret_bool (by rw [hs.out]), hB2.out⟩
 have u2 : decide (m.rnd < 0) = false := decide_eq_false (by omega)
 by_cases q3 : m.rnd < 16
 case neg =>
  have hs := Lib.hid (show R = false by rw [hRh.out, headB]; simp [q0, q1, q2, q3])
  have nq : 16 ≤ m.rnd := by omega
  have u3 : decide (16 ≤ m.rnd) = true := decide_eq_true nq
  clear q3 nq
  go_upto_region 1 with fail
  refine wp_region_quiet_below (by kernel_rfl) (by kernel_rfl) ?_
  repeat (first | (refine wpQuiet_load_part_w rfl 42 _ rfl n 0 rfl (msC m (.slice x Nn cp)) hld.out _ Try.underlying42 rfl hsz.out ?_; go_simp) | go_big_quiet_step (first | with_reducible exact cB _ _ | with_reducible exact cS _ _))
  refine wpQuiet_nil ?_
  first | (rintro w2 ⟨⟨d, os⟩, rfl⟩) | (intro pq; obtain ⟨d, os⟩ := pq)
  have hB2 := Lib.hid (hB0.out.trans ((below_regrown W1 d os).mono (Nat.le_of_lt hz0)))
  dsimp only
  go_wp2
  go_ret
  exact ⟨ret_bool (by rw [hs.out]), hB2.out⟩
 have u3 : decide (16 ≤ m.rnd) = false := decide_eq_false (by omega)
 cases hsm : sameB m (bareM m)
 case false =>
  have hs := Lib.hid (show R = false by rw [hRh.out, headB]; simp [hsm])
  simp only [hsm] at cS
  go_upto_region 1 with fail
  refine wp_region_quiet_below (by kernel_rfl) (by kernel_rfl) ?_
  repeat (first | (refine wpQuiet_load_part_w rfl 42 _ rfl n 0 rfl (msC m (.slice x Nn cp)) hld.out _ Try.underlying42 rfl hsz.out ?_; go_simp) | go_big_quiet_step (first | with_reducible exact cB _ _ | with_reducible exact cS _ _))
  refine wpQuiet_nil ?_
  first | (rintro w2 ⟨⟨d, os⟩, rfl⟩) | (intro pq; obtain ⟨d, os⟩ := pq)
  have hB2 := Lib.hid (hB0.out.trans ((below_regrown W1 d os).mono (Nat.le_of_lt hz0)))
  dsimp only
  go_wp2
  go_ret
  exact ⟨ret_bool (by rw [hs.out]), hB2.out⟩
 have hRk := Lib.hid (show R = kindB m by rw [hRh.out, headB]; simp [hsm, q0, q1, q2, q3])
 simp only [hsm] at cS
 go_upto_region 1 with fail
 refine wp_region_quiet_below (by kernel_rfl) (by kernel_rfl) ?_
 repeat (first | (refine wpQuiet_load_part_w rfl 42 _ rfl n 0 rfl (msC m (.slice x Nn cp)) hld.out _ Try.underlying42 rfl hsz.out ?_; go_simp) | go_big_quiet_step (first | with_reducible exact cB _ _ | with_reducible exact cS _ _))
 refine wpQuiet_nil ?_
 first | (rintro w2 ⟨⟨d, os⟩, rfl⟩) | (intro pq; obtain ⟨d, os⟩ := pq)
 have hB2 := Lib.hid (hB0.out.trans ((below_regrown W1 d os).mono (Nat.le_of_lt hz0)))
 dsimp only
 have hA2 := hA.out.on (below_regrown W1 d os)
 have hM2 := RowB.keep hM1.out ((below_regrown W1 d os).mono (Nat.le_of_lt hz0)) (Nat.le_refl _)
 have hz2 : n < (grow (redrawn W1 d) os).heap.size := Nat.lt_of_lt_of_le hz0 (below_regrown W1 d os).size
 clear cB cS k0 k1
 generalize grow (redrawn W1 d) os = W2 at hB2 hA2 hM2 hz2 ⊢
 have a0 := hA2.get ms_kind
 have a1 := hA2.get ms_rnd
 have a2 := hA2.get ms_car
 have a3 := hA2.get ms_req
 have a4 := hA2.get ms_rsv
 by_cases e1 : m.kind = 1
 · have hRk := Lib.hid (show R = decide (0 ≤ m.req ∧ m.req < 64 ∧ 0 ≤ m.rsv ∧ m.rsv ≤ 16777216 ∧ chkR m.rq = 0) by rw [hRk.out, kindB, if_pos e1])
   by_cases g0 : 0 ≤ m.req
   case neg =>
    have hs := Lib.hid (show R = false by rw [hRk.out]; simp [g0])
    go_wp2
    go_ret
    exact ⟨ret_bool (by rw [hs.out]), hB2.out⟩
   by_cases g1 : m.req < 64
   case neg =>
    have hs := Lib.hid (show R = false by rw [hRk.out]; simp [g1])
    go_wp2
    go_ret
    exact ⟨ret_bool (by rw [hs.out]), hB2.out⟩
   by_cases g2 : 0 ≤ m.rsv
   case neg =>
    have hs := Lib.hid (show R = false by rw [hRk.out]; simp [g2])
    go_wp2
    go_ret
    exact ⟨ret_bool (by rw [hs.out]), hB2.out⟩
   by_cases g3 : m.rsv ≤ 16777216
   case neg =>
    have hs := Lib.hid (show R = false by rw [hRk.out]; simp [g3])
    go_wp2
    go_ret
    exact ⟨ret_bool (by rw [hs.out]), hB2.out⟩
   have hck := Lib.hid (show Calls Try.prog 48 #[.agg (rqC m.rq).toArray] W2 fun r w' => r = .returned (.int .i64 (chkR m.rq)) ∧ Below W2.heap.size W2 w' from Order.refCheck_any _ _ _ _ _ _ _ _ _ _ _)
   obtain ⟨C, hC⟩ : ∃ C, chkR m.rq = C := ⟨_, rfl⟩
   rw [hC] at hck hRk
   replace hC := Lib.hid hC
   have hA3 := Lib.hid hA2
   clear hA2
   go_upto_region 5 with fail
   refine wp_region_list ?_
   try dsimp only
   (refine BigFrame.wpList_want rfl ?_; intro K hK; replace hK := Lib.hid hK; go_wp2_with fail; refine hK.out _ _ ?_; clear hK K) -- 0
   (refine BigFrame.wpList_want rfl ?_; intro K hK; replace hK := Lib.hid hK; go_wp2_with fail; refine hK.out _ _ ?_; clear hK K) -- 1
   (refine BigFrame.wpList_want rfl ?_; intro K hK; replace hK := Lib.hid hK; go_wp2_with fail; refine hK.out _ _ ?_; clear hK K) -- 2
   (refine BigFrame.wpList_want rfl ?_; intro K hK; replace hK := Lib.hid hK; go_wp2_with fail; refine hK.out _ _ ?_; clear hK K) -- 3
   (refine BigFrame.wpList_want rfl ?_; intro K hK; replace hK := Lib.hid hK; go_wp2_with fail; refine hK.out _ _ ?_; clear hK K) -- 4
   (refine BigFrame.wpList_want rfl ?_; intro K hK; replace hK := Lib.hid hK; go_wp2_with fail; refine hK.out _ _ ?_; clear hK K) -- 5
   (refine BigFrame.wpList_want rfl ?_; intro K hK; replace hK := Lib.hid hK; go_wp2_with fail; refine hK.out _ _ ?_; clear hK K) -- 6
   (refine BigFrame.wpList_want rfl ?_; intro K hK; replace hK := Lib.hid hK; go_wp2_with fail; refine hK.out _ _ ?_; clear hK K) -- 7
   (refine BigFrame.wpList_want rfl ?_; intro K hK; replace hK := Lib.hid hK; go_wp2_with fail; refine hK.out _ _ ?_; clear hK K) -- 8
   (refine BigFrame.wpList_want rfl ?_; intro K hK; replace hK := Lib.hid hK; go_wp2_with fail; refine hK.out _ _ ?_; clear hK K) -- 9
   (refine BigFrame.wpList_want rfl ?_; intro K hK; replace hK := Lib.hid hK; go_wp2_with fail; refine hK.out _ _ ?_; clear hK K) -- 10
   (refine BigFrame.wpList_want rfl ?_; intro K hK; replace hK := Lib.hid hK; go_wp2_with fail; refine hK.out _ _ ?_; clear hK K) -- 11
   (refine BigFrame.wpList_want rfl ?_; intro K hK; replace hK := Lib.hid hK; go_wp2_with fail; refine hK.out _ _ ?_; clear hK K) -- 12
   (refine BigFrame.wpList_want rfl ?_; intro K hK; replace hK := Lib.hid hK; go_wp2_with fail; refine hK.out _ _ ?_; clear hK K) -- 13
   (refine BigFrame.wpList_want rfl ?_; intro K hK; replace hK := Lib.hid hK; go_wp2_with fail; refine hK.out _ _ ?_; clear hK K) -- 14
   (refine BigFrame.wpList_want rfl ?_; intro K hK; replace hK := Lib.hid hK; go_wp2_with fail; refine hK.out _ _ ?_; clear hK K) -- 15
   (refine BigFrame.wpList_want rfl ?_; intro K hK; replace hK := Lib.hid hK; go_wp2_with fail; refine hK.out _ _ ?_; clear hK K) -- 16
   (refine BigFrame.wpList_want rfl ?_; intro K hK; replace hK := Lib.hid hK; go_wp2_with fail; refine hK.out _ _ ?_; clear hK K) -- 17
   (refine BigFrame.wpList_want rfl ?_; intro K hK; replace hK := Lib.hid hK; go_wp2_with fail; refine hK.out _ _ ?_; clear hK K) -- 18
   (refine BigFrame.wpList_want rfl ?_; intro K hK; replace hK := Lib.hid hK; go_wp2_with fail; refine hK.out _ _ ?_; clear hK K) -- 19
   refine wpList_load_part_w rfl 35 _ rfl n 5 rfl (rqC m.rq) (fun j v hv => hA3.out.get (ms_rq hv)) _ Try.underlying35 rfl (rq_size _) ?_
   go_simp
   (refine BigFrame.wpList_want rfl ?_; intro K hK; replace hK := Lib.hid hK; go_wp2_with fail)
   refine hck.out.mono ?_
   rintro e w3 ⟨rfl, hb3⟩
   have hB3 := Lib.hid (hB2.out.trans (hb3.mono (Nat.le_of_lt hz2)))
   by_cases g4 : C = 0
   · have hs := Lib.hid (show R = true by rw [hRk.out]; simp [g0, g1, g2, g3, g4])
     go_wp2_with fail
     refine hK.out _ _ ?_
     clear hK K
     go_wp2
     go_ret
     exact ⟨ret_bool (by rw [hs.out]), hB3.out⟩
   · have hs := Lib.hid (show R = false by rw [hRk.out]; simp [g4])
     go_wp2_with fail
     refine hK.out _ _ ?_
     clear hK K
     go_wp2
     go_ret
     exact ⟨ret_bool (by rw [hs.out]; simpa using g4), hB3.out⟩
 by_cases e2 : m.kind = 2
 · have hs := Lib.hid (show R = carB m.car by rw [hRk.out, kindB, if_neg e1, if_pos e2])
   go_wp2_with fail
   refine (carrier_any m.car W2).mono ?_
   rintro e w3 ⟨rfl, rfl⟩
   go_wp2
   go_ret
   exact ⟨ret_bool (by rw [hs.out]), hB2.out⟩
 by_cases e4 : m.kind = 4
 · have a8 := hA2.get (ms_bid hsb.out.1.dig)
   have hRk := Lib.hid (show R = (carB m.car && decide (m.bid ≤ 4294967296)) by rw [hRk.out, kindB, if_neg e1, if_neg e2, if_pos e4])
   go_wp2_with fail
   refine (carrier_any m.car W2).mono ?_
   rintro e w3 ⟨rfl, rfl⟩
   cases hc : carB m.car
   case false =>
    have hs := Lib.hid (show R = false by rw [hRk.out, hc]; rfl)
    go_wp2
    go_ret
    exact ⟨ret_bool (by rw [hs.out]), hB2.out⟩
   by_cases h8 : m.bid ≤ 4294967296
   · have hs := Lib.hid (show R = true by rw [hRk.out, hc]; simp [h8])
     have h8i : (m.bid : Int) ≤ 4294967296 := by omega
     go_wp2
     go_ret
     exact ⟨ret_bool (by rw [hs.out]), hB2.out⟩
   · have hs := Lib.hid (show R = false by rw [hRk.out, hc]; simp [h8])
     have h8i : ¬ (m.bid : Int) ≤ 4294967296 := by omega
     go_wp2
     go_ret
     exact ⟨ret_bool (by rw [hs.out]; simp; omega), hB2.out⟩
 by_cases e5 : m.kind = 5
 · have hs := Lib.hid (show R = ocB m.oc by rw [hRk.out, kindB, if_neg e1, if_neg e2, if_neg e4, if_pos e5])
   have hok := Lib.hid (show Calls Try.prog 50 #[.agg (ocC m.oc).toArray] W2 fun e w' => e = .returned (.bool (ocB m.oc)) ∧ Below W2.heap.size W2 w' from outcome_any m.oc W2)
   have hA3 := Lib.hid hA2
   clear hA2
   go_upto_region 11 with fail
   refine wp_region_list ?_
   try dsimp only
   (refine BigFrame.wpList_want rfl ?_; intro K hK; replace hK := Lib.hid hK; go_wp2_with fail; refine hK.out _ _ ?_; clear hK K)
   refine wpList_load_part_w rfl 40 _ rfl n 50 rfl (ocC m.oc) (fun j v hv => hA3.out.get (ms_oc hsb.out.1.dig hv)) _ Try.underlying40 rfl (oc_size _) ?_
   go_simp
   (refine BigFrame.wpList_want rfl ?_; intro K hK; replace hK := Lib.hid hK; go_wp2_with fail)
   refine hok.out.mono ?_
   rintro e w3 ⟨rfl, hb3⟩
   have hB3 := Lib.hid (hB2.out.trans (hb3.mono (Nat.le_of_lt hz2)))
   go_wp2_with fail
   refine hK.out _ _ ?_
   clear hK K
   go_wp2
   go_ret
   exact ⟨ret_bool (by rw [hs.out]), hB3.out⟩
 have hRk := Lib.hid (show R = upB m.marks by rw [hRk.out, kindB, if_neg e1, if_neg e2, if_neg e4, if_neg e5])
 have hA3 := Lib.hid hA2
 have hM3 := Lib.hid hM2
 clear hA2 hM2 a1 a2 a3 a4
 go_wp2_with fail
 go_loopw [3] (fun c wr => ∃ i : Nat, c = .int .i64 (i : Int) ∧ i ≤ Nn ∧ Hid (∀ j < i, markB m.marks j = true) ∧ Hid (Below W2.heap.size W2 wr))
  (fun c _ => Nn - (RowKit.intOf c).toNat)
 case atStart => exact ⟨0, rfl, Nat.zero_le _, Lib.hid (fun j hj => absurd hj (Nat.not_lt_zero j)), Lib.hid (.refl _ _)⟩
 case round =>
  obtain ⟨wi, hwi⟩ : ∃ wi, wi = wr := ⟨_, rfl⟩
  subst hwi
  obtain ⟨i, rfl, hiN, ht, hBl⟩ := hrel
  have hBw := Lib.hid (hB2.out.trans (hBl.out.mono (Nat.le_of_lt hz2)))
  have hA4 := hA3.out.on hBl.out
  have hM4 := RowB.keep hM3.out (hBl.out.mono (Nat.le_of_lt hz2)) (Nat.le_refl _)
  have a47 := hA4.get (ms_marks hsb.out.1.dig)
  have b47 := cell_regrown a47
  replace hA4 := Lib.hid hA4
  by_cases hlt : i < Nn
  case neg =>
   have hs := Lib.hid (show R = true by
    rw [hRk.out, upB, List.all_eq_true]
    intro j hj
    rw [List.mem_range, hNl.out] at hj
    exact ht.out j (by omega))
   have hlti : ¬ (i : Int) < (Nn : Int) := by omega
   clear hlt
   go_wp2
   go_ret
   exact ⟨ret_bool (by rw [hs.out]), hBw.out⟩
  have hlt' : (i : Int) < (Nn : Int) := by omega
  obtain ⟨q, hq⟩ : ∃ q, m.marks[i]? = some q := ⟨_, List.getElem?_eq_getElem (by rw [hNl.out]; exact hlt)⟩
  have hsp := mark_at hM4 hq
  obtain ⟨g, o, rfl, hg, hpc⟩ := hsp
  have c0 := cell_regrown (hpc 0 _ rfl)
  rw [Nat.add_zero] at c0
  have cK := fun d os => Calls.regrown_of (d := d) (os := os) (w := wi) ((carrier_any q.1 (grow (redrawn wi d) os)).mono (fun e w' h => And.intro h.1 (by rw [h.2]; exact Below.refl (grow (redrawn wi d) os).heap.size (grow (redrawn wi d) os))))
  replace hq := Lib.hid hq
  have hltH := Lib.hid hlt
  have hz := hBw.out.size
  clear hlt hpc
  cases hc : carB q.1
  case false =>
   have hs := Lib.hid (show R = false by
    rw [hRk.out, upB, List.all_eq_false]
    exact ⟨i, by rw [List.mem_range, hNl.out]; exact hltH.out, by rw [markB_at hq.out, hc]; simp⟩)
   simp only [hc] at cK
   go_upto_region 15 with fail
   refine wp_region_quiet_below (by kernel_rfl) (by kernel_rfl) ?_
   repeat (go_big_quiet_step (first | with_reducible exact cK _ _))
   refine wpQuiet_nil ?_
   first | (rintro w2 ⟨⟨d, os⟩, rfl⟩) | (intro pq; obtain ⟨d, os⟩ := pq)
   have hB5 := Lib.hid (hBl.out.trans (below_regrown wi d os |>.mono hBl.out.size))
   have hB6 := Lib.hid (hB2.out.trans (hB5.out.mono (Nat.le_of_lt hz2)))
   dsimp only
   generalize grow (redrawn wi d) os = w5 at hB5 hB6 ⊢
   go_wp2
   go_ret
   exact ⟨ret_bool (by rw [hs.out]), hB6.out⟩
  simp only [hc] at cK
  by_cases hi0 : i = 0
  case pos =>
   have hu := Lib.hid (show ∀ j < i + 1, markB m.marks j = true by
    intro j hj
    obtain rfl : j = i := by omega
    rw [markB_at hq.out, hc, hi0]
    simp)
   have hi1 : decide (0 < (i : Int)) = false := decide_eq_false (by omega)
   have hi2 : decide (0 < i) = false := decide_eq_false (by omega)
   clear hi0
   go_upto_region 15 with fail
   refine wp_region_quiet_below (by kernel_rfl) (by kernel_rfl) ?_
   repeat (go_big_quiet_step (first | with_reducible exact cK _ _))
   refine wpQuiet_nil ?_
   first | (rintro w2 ⟨⟨d, os⟩, rfl⟩) | (intro pq; obtain ⟨d, os⟩ := pq)
   have hB5 := Lib.hid (hBl.out.trans (below_regrown wi d os |>.mono hBl.out.size))
   have hB6 := Lib.hid (hB2.out.trans (hB5.out.mono (Nat.le_of_lt hz2)))
   dsimp only
   generalize grow (redrawn wi d) os = w5 at hB5 hB6 ⊢
   go_wp2_with fail
   go_roundw
   case rel => exact ⟨i + 1, by go_num, by have := hltH.out; omega, hu, hB5⟩
   case measure => have := hltH.out; simp [RowKit.intOf]; omega
  obtain ⟨k, rfl⟩ : ∃ k, i = k + 1 := ⟨i - 1, by omega⟩
  clear hi0
  have hki : k < Nn := by have := hltH.out; omega
  obtain ⟨r, hr⟩ : ∃ r, m.marks[k]? = some r := ⟨_, List.getElem?_eq_getElem (by rw [hNl.out]; exact hki)⟩
  obtain ⟨g', o', e', _, hrc⟩ := mark_at hM4 hr
  cases e'
  have c1 := cell_regrown (hrc 0 _ rfl)
  rw [Nat.add_zero] at c1
  have hlk : (k : Int) < (Nn : Int) := by omega
  have hk1 : ((k + 1 : Nat) : Int) - 1 = (k : Int) := by omega
  replace hr := Lib.hid hr
  clear hrc hki
  by_cases hrq : r.1 < q.1
  case neg =>
   have hs := Lib.hid (show R = false by
    rw [hRk.out, upB, List.all_eq_false]
    exact ⟨k + 1, by rw [List.mem_range, hNl.out]; exact hltH.out, by rw [markB_succ hq.out hr.out]; simp [hrq]⟩)
   have hrq' : decide (q.1 ≤ r.1) = true := decide_eq_true (by omega)
   clear hrq
   go_upto_region 15 with fail
   refine wp_region_quiet_below (by kernel_rfl) (by kernel_rfl) ?_
   repeat (go_big_quiet_step (first | with_reducible exact cK _ _))
   refine wpQuiet_nil ?_
   first | (rintro w2 ⟨⟨d, os⟩, rfl⟩) | (intro pq; obtain ⟨d, os⟩ := pq)
   have hB5 := Lib.hid (hBl.out.trans (below_regrown wi d os |>.mono hBl.out.size))
   have hB6 := Lib.hid (hB2.out.trans (hB5.out.mono (Nat.le_of_lt hz2)))
   dsimp only
   generalize grow (redrawn wi d) os = w5 at hB5 hB6 ⊢
   go_wp2
   go_ret
   exact ⟨ret_bool (by rw [hs.out]), hB6.out⟩
  have hu := Lib.hid (show ∀ j < k + 1 + 1, markB m.marks j = true by
   intro j hj
   by_cases hjk : j < k + 1
   · exact ht.out j hjk
   · obtain rfl : j = k + 1 := by omega
     rw [markB_succ hq.out hr.out, hc]
     simp [hrq])
  have hrq' : decide (q.1 ≤ r.1) = false := decide_eq_false (by omega)
  clear hrq
  go_upto_region 15 with fail
  refine wp_region_quiet_below (by kernel_rfl) (by kernel_rfl) ?_
  repeat (go_big_quiet_step (first | with_reducible exact cK _ _))
  refine wpQuiet_nil ?_
  first | (rintro w2 ⟨⟨d, os⟩, rfl⟩) | (intro pq; obtain ⟨d, os⟩ := pq)
  have hB5 := Lib.hid (hBl.out.trans (below_regrown wi d os |>.mono hBl.out.size))
  have hB6 := Lib.hid (hB2.out.trans (hB5.out.mono (Nat.le_of_lt hz2)))
  dsimp only
  generalize grow (redrawn wi d) os = w5 at hB5 hB6 ⊢
  go_wp2_with fail
  go_roundw
  case rel => exact ⟨k + 1 + 1, by go_num, by have := hltH.out; omega, hu, hB5⟩
  case measure => have := hltH.out; simp [RowKit.intOf]; omega
end Go.Proofs.Ytpefdmkfmcjfnaa.Ms

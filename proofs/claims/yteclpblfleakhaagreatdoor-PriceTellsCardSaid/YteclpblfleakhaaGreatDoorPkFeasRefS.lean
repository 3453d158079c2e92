import Derived.Test.YteclpblfleakhaaGreatDoorPkFeasRefVis

namespace Go.Proofs.YteclpblfleakhaaGreatDoor.Feas
open Go.RowKit Go.Sort Go.Proofs.YteclpblfleakhaaGreatDoor.Mem Go.Proofs.YteclpblfleakhaaGreatDoor.Route Go.Proofs.YteclpblfleakhaaGreatDoor.When Go.Proofs.YteclpblfleakhaaGreatDoor.Load Go.Proofs.YteclpblfleakhaaGreatDoor.Place
set_option linter.unusedVariables false
theorem Std.vis {t : List Rq} {pre : List (Int × Int)} (h : Std t pre) (ht : ∀ q ∈ t, q.chk = 0) : ∀ s ∈ pre, ∃ x, visO t s = some x ∧ OkVi x := by
 intro s hs
 obtain ⟨p, q, e⟩ := List.append_of_mem hs
 obtain ⟨x, hx, _⟩ := stB_vis (h p s q e)
 exact ⟨x, hx, vis_ok ht hx⟩
theorem Std.ins {t : List Rq} {pre : List (Int × Int)} (h : Std t pre) : Ins t pre := by
 intro s hs
 obtain ⟨p, q, e⟩ := List.append_of_mem hs
 exact (stB_iff.1 (h p s q e)).1
set_option maxRecDepth 100000 in
set_option maxHeartbeats 4000000 in
theorem stop_any (v : Vh) (vl vt : Value) (pre : List (Int × Int)) (s1 s2 : Int) (t : List Rq) (hstd : Std t pre) (ht : ∀ q ∈ t, q.chk = 0) (hst : 0 ≤ v.st ∧ v.st ≤ 1048576) (hl : pre.length ≤ 10000) (w : World) (hL : Row w.heap.size w vl (pre ++ [(s1, s2)])) (hT : Rqs w.heap.size w vt t) :
 Calls Tryz.prog 70 #[.agg #[.int .i64 v.hx, .int .i64 v.hy, .int .i64 v.cp, .int .i64 v.st, .int .i64 v.en], vl, vt] w fun e w' => e = .returned (.int .i64 (srvV v t earlyP pre (leaveV v t pre) (s1, s2))) ∧ Below w.heap.size w w' := by
 obtain ⟨xt, Nt, capt, rfl, hNt, htc1, htc2, ht0⟩ := hT.opened
 obtain ⟨xl, N, capl, rfl, hN', h0', hlc1, hlc2⟩ := hL.opened
 obtain ⟨q, hq⟩ : ∃ q, w.heap.size = q := ⟨_, rfl⟩
 obtain ⟨K, hK⟩ : ∃ K, pre.length = K := ⟨_, rfl⟩
 obtain rfl : N = K + 1 := by rw [← hN'.out, List.length_append, hK]; rfl
 rw [hK] at hl
 have hNt' := Lib.hid hNt
 have hK' := Lib.hid hK
 rw [hq] at hL hT ⊢
 have hL' := Lib.hid hL
 have hT' := Lib.hid hT
 have hq' := Lib.hid hq
 have hstd' := Lib.hid hstd
 have ht' := Lib.hid ht
 have hst' := Lib.hid hst
 have hget : Hid ((pre ++ [(s1, s2)])[K]? = some (s1, s2)) := Lib.hid (by rw [← hK]; simp)
 unfold maxLen at htc2 hlc2
 obtain ⟨w1, hw1⟩ : ∃ w1, w.alloc (.cells #[.int .i64 v.hx, .int .i64 v.hy, .int .i64 v.cp, .int .i64 v.st, .int .i64 v.en] 32) = w1 := ⟨_, rfl⟩
 have hV1 : At w1 q 32 #[.int .i64 v.hx, .int .i64 v.hy, .int .i64 v.cp, .int .i64 v.st, .int .i64 v.en] := by rw [← hw1]; exact At.new_ _ _ _ hq.symm
 have hb1 : Below q w w1 := by rw [← hw1]; exact (Below.refl _ _).alloc (by omega) _
 have hw1' := Lib.hid hw1
 have hqs : q ≤ w1.heap.size := by have := hV1.inside; omega
 have hsrv : Hid (∀ y, srvV v t earlyP pre (leaveV v t pre) (s1, s2) = y → Ending.returned (.int .i64 y) = Ending.returned (.int .i64 (srvV v t earlyP pre (leaveV v t pre) (s1, s2)))) := Lib.hid fun y h => by rw [h]
 clear hT hNt ht0 hL h0' hw1 hq hst hK hstd ht
 go_enter Tryz.func70, Tryz.ntmps70
 go_upto_region 1 with fail
 simp only [hq'.out]
 rw [hw1'.out]
 by_cases h16 : 16 ≤ K
 · have hF := hsrv.out 11 (srv_count (by rw [hK'.out]; exact h16))
   have hF' := Lib.hid hF
   have h16i : (16 : Int) ≤ K := by omega
   clear hF
   go_wp2
   go_ret
   exact ⟨hF'.out, hb1⟩
 have h16i : ¬ (16 : Int) ≤ K := by omega
 have hKc : K ≤ capl := by omega
 have hrow : Hid (∀ W, Below q w W → Row W.heap.size W (.slice xl (K + 1) capl) (pre ++ [(s1, s2)])) := Lib.hid fun W hW => (hL'.out.keep hW (Nat.le_refl _)).more (by have := hW.size; have := hq'.out; omega)
 have hrw : Hid (∀ W, Below q w W → Row W.heap.size W (.slice xl K capl) pre) := Lib.hid fun W hW => by
  have := (hrow.out W hW).cutTo (by simp [hK'.out]) (Nat.le_succ K)
  rw [List.take_left' hK'.out] at this
  exact this
 have htab : Hid (∀ W, Below q w W → Rqs W.heap.size W (.slice xt Nt capt) t) := Lib.hid fun W hW => (hT'.out.keep hW (Nat.le_refl _)).more (by have := hW.size; have := hq'.out; omega)
 have hstop : Hid (∀ W, Below q w W → ∃ g o, xl = some ⟨g, o, none⟩ ∧ W.cell? ⟨g, o + K * 2, none⟩ = some (.int .i64 s1) ∧ W.cell? ⟨g, o + K * 2 + 1, none⟩ = some (.int .i64 s2)) := Lib.hid fun W hW => by
  obtain ⟨g, o, e, _, h1, h2⟩ := Row.stop (hL'.out.keep hW (Nat.le_refl _)) hget.out
  exact ⟨g, o, e, h1, h2⟩
 obtain ⟨gl, ol, rfl, e0, e1⟩ := hstop.out w1 hb1
 have hcell : Hid (∀ W, Below q w W → W.cell? ⟨gl, ol + K * 2, none⟩ = some (.int .i64 s1) ∧ W.cell? ⟨gl, ol + K * 2 + 1, none⟩ = some (.int .i64 s2)) := Lib.hid fun W hW => by
  obtain ⟨g, o, e, h1, h2⟩ := hstop.out W hW
  cases e
  exact ⟨h1, h2⟩
 have hlen3 : pre.length ≤ 1000000 := by have := hK'.out; omega
 have hc4 := fun d os => Calls.regrown_of (Stands_any _ _ pre t s1 s2 hlen3 (grow (redrawn w1 d) os) (hrw.out _ (hb1.trans ((below_regrown w1 d os).mono hqs))) (htab.out _ (hb1.trans ((below_regrown w1 d os).mono hqs))))
 have hst4 : standB t pre (s1, s2) = stB t pre (s1, s2) := stand_eq hstd'.out _
 obtain ⟨B, hB⟩ : ∃ B, stB t pre (s1, s2) = B := ⟨_, rfl⟩
 rw [hst4, hB] at hc4
 have hB' := Lib.hid hB
 have ke0 := cell_regrown e0
 have ke1 := cell_regrown e1
 have hKi : (K : Int) < (K + 1 : Nat) := by omega
 have hKl : K < K + 1 := by omega
 have hlenH := Lib.hid hlen3
 clear hst4 hB hL' hT' hstop hlen3
 go_upto_region 4 with fail
 refine wp_region_quiet_below (by kernel_rfl) (by kernel_rfl) ?_
 repeat (go_big_quiet_step (with_reducible exact hc4 _ _))
 refine wpQuiet_nil ?_
 intro _ hw'
 obtain ⟨⟨dq, osq⟩, hw''⟩ := hw'
 subst hw''
 have hbg := below_regrown w1 dq osq
 have hV2 := hV1.keep hbg hV1.inside
 have hb2 := hb1.trans (hbg.mono hqs)
 have hq2 : q ≤ (grow (redrawn w1 dq) osq).heap.size := by have := hbg.size; omega
 clear hc4 ke0 ke1 e0 e1 hbg hV1 hb1 hqs hw1'
 generalize grow (redrawn w1 dq) osq = w2 at *
 cases B
 · have hF := Lib.hid (hsrv.out 8 (srv_stop (by rw [hK'.out]; exact h16) hB'.out))
   go_wp2
   go_ret
   exact ⟨hF.out, hb2⟩
 have hstd2 := Lib.hid (hstd'.out.snoc hB'.out)
 obtain ⟨A, hA⟩ : ∃ A, acc t (pre ++ [(s1, s2)]) = A := ⟨_, rfl⟩
 have hc6 := fun d os => Calls.regrown_of (Board_any _ _ (pre ++ [(s1, s2)]) t (by simp; have := hK'.out; omega) ht'.out hstd2.out.ins (grow (redrawn w2 d) os) (hrow.out _ (hb2.trans ((below_regrown w2 d os).mono hq2))) (htab.out _ (hb2.trans ((below_regrown w2 d os).mono hq2))))
 rw [hA] at hc6
 have hA' := Lib.hid hA
 have c1 := hV2.cell 2
 simp at c1
 have kc1 := cell_regrown c1
 clear hA
 go_upto_region 6 with fail
 refine wp_region_quiet_below (by kernel_rfl) (by kernel_rfl) ?_
 repeat (go_big_quiet_step (with_reducible exact hc6 _ _))
 refine wpQuiet_nil ?_
 intro _ hw'
 obtain ⟨⟨dq, osq⟩, hw''⟩ := hw'
 subst hw''
 have hbg := below_regrown w2 dq osq
 have hV3 := hV2.keep hbg hV2.inside
 have hb3 := hb2.trans (hbg.mono hq2)
 have hq3 : q ≤ (grow (redrawn w2 dq) osq).heap.size := by have := hbg.size; omega
 clear hc6 c1 kc1 hbg hV2 hb2 hq2
 generalize grow (redrawn w2 dq) osq = w3 at *
 by_cases hf : v.cp < A
 · have hF := Lib.hid (hsrv.out 10 (srv_full (by rw [hK'.out]; exact h16) hB'.out (by rw [hA'.out]; omega)))
   go_wp2
   go_ret
   exact ⟨hF.out, hb3⟩
 have hc8 := Leaves_any v _ _ (pre ++ [(s1, s2)]) t (by simp; have := hK'.out; omega) hst'.out (hstd2.out.vis ht'.out) w3 (hrow.out _ hb3) (htab.out _ hb3)
 obtain ⟨x, hx, hvx⟩ := stB_vis hB'.out
 have hok := vis_ok ht'.out hx
 obtain ⟨hx1, hx2, hx3, hx4, hx5⟩ := hok
 obtain ⟨hn1, hn2⟩ := leave_bd hst'.out (hstd2.out.vis ht'.out)
 have hlk : ((pre ++ [(s1, s2)]).length : Int) ≤ 17 := by simp; have := hK'.out; omega
 have hsn := leave_snoc v t pre (s1, s2)
 rw [hvx] at hsn
 obtain ⟨S, hS⟩ : ∃ S, leaveV v t (pre ++ [(s1, s2)]) = S := ⟨_, rfl⟩
 rw [hS] at hc8 hn1 hn2 hsn
 obtain ⟨now, ax, ay⟩ := S
 simp only at hc8 hn1 hn2
 have hn3 : now ≤ 100000000 := by omega
 obtain ⟨T, hT⟩ : ∃ T, arV (leaveV v t pre) x = T := ⟨_, rfl⟩
 have hnow : now = max T x.we + x.sv := by
  have := congrArg Sp.now hsn
  unfold goE at this
  rw [hT] at this
  exact this
 have hT' := Lib.hid hT
 have hx' := Lib.hid hx
 have hvx' := Lib.hid hvx
 obtain ⟨qr, hqr, hr0, hr1, hsv, -⟩ := visO_some hx
 simp only at hqr hr0 hr1 hsv
 obtain ⟨j, rfl⟩ : ∃ j : Nat, s1 = j := ⟨s1.toNat, by omega⟩
 simp only [Int.toNat_natCast] at hqr
 have hj1 : j < Nt := by have := hNt'.out; omega
 have hj2 : (j : Int) < Nt := by omega
 obtain ⟨gt, ot, rfl, -, -⟩ := Rqs.at (htab.out _ hb3) hqr
 have hsrvc : Hid (∀ W, Below q w W → W.cell? ⟨gt, ot + j * 10 + 9, none⟩ = some (.int .i64 x.sv)) := Lib.hid fun W hW => by
  obtain ⟨g2, o2, e2, _, h3⟩ := Rqs.at (htab.out W hW) hqr
  cases e2
  rw [hsv]
  exact h3.2.2.2.2.2.2.2.2.2
 have p0 := hV3.cell 0
 have p1 := hV3.cell 1
 have p2 := hV3.cell 2
 have p3 := hV3.cell 3
 have p4 := hV3.cell 4
 simp at p0 p1 p2 p3 p4
 clear hqr hr0 hr1 hsv hn2 hlk hsn hS hT hx hvx
 go_wp2_with fail
 refine hc8.mono ?_
 clear hc8 p0 p1 p2 p3 p4
 rintro e w4 ⟨rfl, hb4⟩
 obtain ⟨m1, hm1⟩ : ∃ m1, w4.heap.size = m1 := ⟨_, rfl⟩
 obtain ⟨w5, hw5⟩ : ∃ w5, w4.alloc (.cells #[.int .i64 ax, .int .i64 ay] 30) = w5 := ⟨_, rfl⟩
 have hb45 : Below w4.heap.size w4 w5 := by rw [← hw5]; exact (Below.refl _ _).alloc (Nat.le_refl _) _
 have hb5 := hb3.trans ((hb4.trans (hb45.mono hb4.size)).mono hq3)
 have hq5 : q ≤ w5.heap.size := by have := hb4.size; have := hb45.size; omega
 have hw5' := Lib.hid hw5
 have hm1' := Lib.hid hm1
 clear hb4 hb45 hb3 hV3 hw5 hm1 hq3
 go_upto_region 9 with fail
 simp only [hm1'.out]
 rw [hw5'.out]
 obtain ⟨e0, e1⟩ := hcell.out w5 hb5
 have e9 := hsrvc.out w5 hb5
 have ke0 := cell_regrown e0
 have ke1 := cell_regrown e1
 have ke9 := cell_regrown e9
 have kW := fun d os => Calls.regrown_of (rWindow_any j s2 _ t x (grow (redrawn w5 d) os) hx'.out (htab.out _ (hb5.trans ((below_regrown w5 d os).mono hq5))))
 have hfl : ∀ W, (Instr.field 41 (.agg #[.int .i64 x.we, .int .i64 x.wl]) 1).run Tryz.prog W = .ok (.int .i64 x.wl) W := fun _ => by kernel_rfl
 refine wp_region_quiet_below (by kernel_rfl) (by kernel_rfl) ?_
 repeat (go_big_quiet_step (with_reducible exact kW _ _))
 refine wpQuiet_nil ?_
 intro _ hw'
 obtain ⟨⟨dq, osq⟩, hw''⟩ := hw'
 subst hw''
 have hbg := below_regrown w5 dq osq
 have hb6 := hb5.trans (hbg.mono hq5)
 clear kW ke0 ke1 ke9 e0 e1 e9 hfl hbg hb5 hq5
 generalize grow (redrawn w5 dq) osq = w6 at *
 by_cases hlt : x.wl < now - x.sv
 · have hF := Lib.hid (hsrv.out 9 (srv_late (by rw [hK'.out]; exact h16) hB'.out (by rw [hA'.out]; omega) (by
    rw [hvx'.out, hT'.out]
    exact decide_eq_false (by omega))))
   go_wp2
   go_ret
   exact ⟨hF.out, hb6⟩
 · have hF := Lib.hid (hsrv.out 0 (srv_ok (by rw [hK'.out]; exact h16) hB'.out (by rw [hA'.out]; omega) (by
    rw [hvx'.out, hT'.out]
    exact decide_eq_true (by omega))))
   go_wp2
   go_ret
   exact ⟨hF.out, hb6⟩
end Go.Proofs.YteclpblfleakhaaGreatDoor.Feas
namespace Go.Proofs.YteclpblfleakhaaGreatDoor.Feas
open Go.RowKit Go.Sort Go.Proofs.YteclpblfleakhaaGreatDoor.Mem Go.Proofs.YteclpblfleakhaaGreatDoor.Route Go.Proofs.YteclpblfleakhaaGreatDoor.When Go.Proofs.YteclpblfleakhaaGreatDoor.Load Go.Proofs.YteclpblfleakhaaGreatDoor.Float Go.Proofs.YteclpblfleakhaaGreatDoor.Tail Go.Proofs.YteclpblfleakhaaGreatDoor.Place
set_option linter.unusedVariables false
def PB (P : Pace) : Prop := ∀ (k : Nat) (x : Vi) (n : Int), OkVi x → 0 ≤ n → (P k x n).2 = true → 0 ≤ (P k x n).1 ∧ (P k x n).1 ≤ 2000000
theorem pb_early : PB earlyP := fun k x n h hn hs => by
 simp only [earlyP, decide_eq_true_eq] at hs ⊢
 obtain ⟨h1, h2, h3, h4, h5⟩ := h
 omega
theorem early_pace (L : Nat) (w : World) (B : Nat) : PaceC 78 #[] L w B earlyP := fun w' _ k x m hk hok hm1 hm2 => by
 obtain ⟨h1, h2, h3, h4, h5⟩ := hok
 exact earliest_any k x.px x.py x.we x.wl x.sv m (by omega) (by omega) (by omega) w'
section
variable {x : Vi} {n : Int} {y : Tm}
end
structure TripS (v : Vh) (vt kv : Value) (g mb : Nat) (t : List Rq) (pre : List (Int × Int)) (a : Sp) (W : World) : Prop where
 trip : At W g 182 #[.int .i64 v.hx, .int .i64 v.hy, .int .i64 v.cp, .int .i64 v.st, .int .i64 v.en, vt, kv, .map (some mb), .int .i64 (acc t pre), .int .i64 a.px, .int .i64 a.py, .int .i64 a.now]
 fate : FateAt W mb pre.length (fateF pre)
 now : 0 ≤ a.now ∧ a.now ≤ 500000000
 len : pre.length ≤ 16
 acc : -1000 * (pre.length : Int) ≤ acc t pre ∧ acc t pre ≤ 1000 * (pre.length : Int)
def WalkI (v : Vh) (vt kv : Value) (g mb : Nat) (t : List Rq) (P : Pace) (l : List (Int × Int)) (w : World) (k : Nat) (W : World) : Prop :=
 ∃ a, TripS v vt kv g mb t (l.take k) a W ∧ walkV v t P [] (sp0 v) l = walkV v t P (l.take k) a (l.drop k) ∧ Two g mb w W
theorem walk_step {v : Vh} {t : List Rq} {P : Pace} {l : List (Int × Int)} {k : Nat} {a : Sp} {s : Int × Int} (hs : l[k]? = some s) (hw : walkV v t P [] (sp0 v) l = walkV v t P (l.take k) a (l.drop k)) (h0 : srvV v t P (l.take k) a s = 0) :
 walkV v t P [] (sp0 v) l = walkV v t P (l.take (k + 1)) (goP P (l.take k).length a (visV t s)) (l.drop (k + 1)) := by
 obtain ⟨hlt, hx⟩ := List.getElem?_eq_some_iff.1 hs
 rw [hw, List.drop_eq_getElem_cons hlt, hx, walkV_go h0, Load.take_get hs]
theorem walk_bad {v : Vh} {t : List Rq} {P : Pace} {l : List (Int × Int)} {k : Nat} {a : Sp} {s : Int × Int} (hs : l[k]? = some s) (hw : walkV v t P [] (sp0 v) l = walkV v t P (l.take k) a (l.drop k)) (h0 : srvV v t P (l.take k) a s ≠ 0) :
 walkV v t P [] (sp0 v) l = (srvV v t P (l.take k) a s, k, a) := by
 obtain ⟨hlt, hx⟩ := List.getElem?_eq_some_iff.1 hs
 rw [hw, List.drop_eq_getElem_cons hlt, hx, walkV_stop h0, List.length_take]
 rw [show min k l.length = k by omega]
theorem walk_end {v : Vh} {t : List Rq} {P : Pace} {l : List (Int × Int)} {a : Sp} (hw : walkV v t P [] (sp0 v) l = walkV v t P (l.take l.length) a (l.drop l.length)) : walkV v t P [] (sp0 v) l = (0, l.length, a) := by
 rw [hw, List.drop_length, List.take_length, walkV]
theorem walk_in {v : Vh} {t : List Rq} {P : Pace} (hP : PB P) (hq : ∀ q ∈ t, q.chk = 0) {pre : List (Int × Int)} {a : Sp} {s : Int × Int} (h : srvV v t P pre a s = 0) (hn : 0 ≤ a.now ∧ a.now ≤ 500000000) (hl : pre.length ≤ 16) (ha : -1000 * (pre.length : Int) ≤ acc t pre ∧ acc t pre ≤ 1000 * (pre.length : Int)) :
 (0 ≤ (goP P pre.length a (visV t s)).now ∧ (goP P pre.length a (visV t s)).now ≤ 500000000) ∧ (pre ++ [s]).length ≤ 16 ∧ (-1000 * ((pre ++ [s]).length : Int) ≤ acc t (pre ++ [s]) ∧ acc t (pre ++ [s]) ≤ 1000 * ((pre ++ [s]).length : Int)) := by
 obtain ⟨h1, h2, h3, h4⟩ := srv_bits.1 h
 obtain ⟨x, hx, hv⟩ := stB_vis h2
 rw [hv] at h4 ⊢
 have hd := dist_bd (a.px, a.py) (x.px, x.py)
 have hb := hP pre.length x (arV a x) (vis_ok hq hx) (by unfold arV; omega) h4
 obtain ⟨q, hqq, _⟩ := visO_some hx
 have hl1 := chk_ld hq q (List.mem_of_getElem? hqq)
 refine ⟨⟨hb.1, by have := hb.2; show (P pre.length x (arV a x)).1 ≤ _; omega⟩, by simp; omega, ?_⟩
 rw [acc_snoc]
 simp only [stN]
 rw [ldR_get hqq, List.length_append, List.length_singleton]
 unfold sg
 split <;> omega
theorem TripS.on {v : Vh} {vt kv : Value} {g mb : Nat} {t : List Rq} {pre : List (Int × Int)} {a : Sp} {W W' : World} (h : TripS v vt kv g mb t pre a W) (hb : Below W.heap.size W W') : TripS v vt kv g mb t pre a W' :=
 ⟨h.trip.keep hb h.trip.inside, h.fate.keep hb h.fate.inside, h.now, h.len, h.acc⟩
theorem ret_ei {a b c d : Int} (h : a = b) (h2 : c = d) : Ending.returned (.tuple #[.int .i64 a, .int .i64 c]) = .returned (.tuple #[.int .i64 b, .int .i64 d]) := by rw [h, h2]
set_option maxRecDepth 100000 in
set_option maxHeartbeats 4000000 in
theorem walk_any (v : Vh) (vl vt kv : Value) (g mb B : Nat) (P : Pace) (hPB : PB P) (l : List (Int × Int)) (t : List Rq) (w : World) (hl : l.length ≤ 1000000) (hnum : Nums l) (hq : ∀ q ∈ t, q.chk = 0) (hv : v.chk = 0) (hg : TripS v vt kv g mb t [] (sp0 v) w)
 (hL : Row B w vl l) (hT : Rqs B w vt t) (hB : B ≤ w.heap.size) (hBg : B ≤ g ∧ B ≤ mb) (hP : PassC kv l.length B w P) :
 Calls Tryz.prog 94 #[.pointer (some ⟨g, 0, none⟩), vl] w fun e w' =>
  e = .returned (.tuple #[.int .i64 (walkV v t P [] (sp0 v) l).1, .int .i64 ((walkV v t P [] (sp0 v) l).2.1 : Nat)]) ∧ ((walkV v t P [] (sp0 v) l).1 = 0 → TripS v vt kv g mb t l (walkV v t P [] (sp0 v) l).2.2 w') ∧ Two g mb w w' := by
 obtain ⟨xl, N, cap, rfl, hN, hl0, hlc1, hlc2⟩ := hL.opened
 have hgi := hg.trip.inside
 have hmi := hg.fate.inside
 have hI0 : WalkI v vt kv g mb t P l w 0 w := ⟨sp0 v, by simpa using hg, by simp, .refl _ _ _⟩
 have hN' : Hid (l.length = N) := hN
 rw [hN'.out] at hP hl
 have hP' := Lib.hid hP
 have hL' := Lib.hid hL
 have hT' := Lib.hid hT
 have hq' := Lib.hid hq
 have hnum' := Lib.hid hnum
 have hPB' := Lib.hid hPB
 clear hN hP hL hT hq hnum hPB hg hl0
 go_enter Tryz.func94, Tryz.ntmps94
 go_wp2_with fail
 go_step3
 go_wp2_with fail
 go_step3
 go_wp2
 go_loopw [4, 5, 10] (fun c u i wr => ∃ k : Nat, k ≤ N ∧ c = .int .i64 0 ∧ u = .int .i64 k ∧ i = .int .i64 k ∧ WalkI v vt kv g mb t P l w k wr) (fun _ _ i _ => N - (intOf i).toNat)
 case atStart => exact ⟨0, Nat.zero_le _, rfl, rfl, rfl, hI0⟩
 case round =>
  obtain ⟨k, hk, rfl, rfl, rfl, a, hS, hwv, hTw⟩ := hrel
  clear hI0
  by_cases hlt : k < N
  · obtain ⟨⟨s1, s2⟩, hs⟩ : ∃ s, l[k]? = some s := ⟨l[k]'(by rw [hN'.out]; exact hlt), List.getElem?_eq_getElem _⟩
    have hbw : Below B w wr := hTw.below hBg.1 hBg.2 hB
    obtain ⟨b, o, rfl, hb, c0, c1⟩ := Row.stop (hL'.out.keep hbw (Nat.le_refl _)) hs
    simp only at c0 c1
    have hlen : (l.take k).length = k := by rw [List.length_take, hN'.out]; omega
    obtain ⟨w1, hw1⟩ : ∃ w1, wr.alloc (.cells #[.int .i64 s1, .int .i64 s2] 82) = w1 := ⟨_, rfl⟩
    have hb1 : Below wr.heap.size wr w1 := by rw [← hw1]; exact (Below.refl _ _).alloc (Nat.le_refl _) _
    obtain ⟨m, hmq⟩ : ∃ m, wr.heap.size = m := ⟨_, rfl⟩
    have hX : At w1 m 82 #[.int .i64 s1, .int .i64 s2] := by rw [← hw1]; exact At.new_ _ _ _ hmq.symm
    have hS1 := hS.on hb1
    have hT1 := hTw.on hb1
    have hB1 : B ≤ w1.heap.size := by have := hT1.size; omega
    have hbw1 := hT1.below hBg.1 hBg.2 hB
    have hpre := hS.len
    rw [hlen] at hpre
    have hacc := hS.acc
    rw [hlen] at hacc
    have hsv := serve_any v vt kv g mb (l.take k).length B N P t (l.take k) a s1 s2 w1 (by omega) (by omega) (by omega) (hnum'.out _ (List.mem_of_getElem? hs)).1 (by omega) hq'.out hS.now hS1.trip hS1.fate (hT'.out.keep hbw1 (Nat.le_refl _)) hB1 hBg (hP'.out.on hbw1)
    have hin := Lib.hid (fun h => walk_in (v := v) (s := (s1, s2)) hPB'.out hq'.out h hS.now hS.len hS.acc)
    have hgo := Lib.hid (walk_step hs hwv)
    have hbad := Lib.hid (walk_bad hs hwv)
    have htk := Lib.hid (Load.take_get hs)
    rw [hlen] at hsv
    obtain ⟨E, hE⟩ : ∃ E, srvV v t P (l.take k) a (s1, s2) = E := ⟨_, rfl⟩
    rw [hE] at hsv
    have hE' := Lib.hid hE
    have hlen' := Lib.hid hlen
    have hw1' := Lib.hid hw1
    have hmq' := Lib.hid hmq
    have hX0 := hX.cell 0
    have hX1 := hX.cell 1
    simp at hX0 hX1
    clear hS hwv hTw hbw hb1 hS1 hbw1 hpre hacc hE hlen hw1 hs hX hmq
    go_upto_region 4 with fail
    simp only [hmq'.out]
    rw [hw1'.out]
    go_wp2_with fail
    refine hsv.mono ?_
    clear hsv hX0 hX1 c0 c1
    rintro e w2 ⟨rfl, hyes, hT2⟩
    have hTT := hT1.trans hT2
    cases e0 : (E == 0)
    case true =>
     obtain rfl : E = 0 := by simpa using e0
     obtain ⟨hG2, hM2⟩ := hyes rfl
     obtain ⟨i1, i2, i3⟩ := hin.out hE'.out
     have hR : WalkI v vt kv g mb t P l w (k + 1) w2 := ⟨_, ⟨by rw [htk.out, hlen'.out]; exact hG2, by rw [htk.out, List.length_append, hlen'.out]; exact hM2, i1, by rw [htk.out]; exact i2, by rw [htk.out]; exact i3⟩, hgo.out hE'.out, hTT⟩
     clear hyes hG2 hM2 i1 i2 i3 hin hgo hbad e0
     go_wp2
     go_roundw
     case rel => exact ⟨k + 1, hlt, rfl, by go_num, by go_num, hR⟩
     case measure => simp [intOf]; omega
    case false =>
     have hne : E ≠ 0 := by simpa using e0
     have hF := Lib.hid (hbad.out (by rw [hE'.out]; exact hne))
     clear hyes hin hgo hbad hne
     go_wp2
     simp only [Exit.noGoto_ret]
     refine bodyPost_ret (v := .tuple #[.int .i64 E, .int .i64 k]) (by simp [results, Tryz.results94, go_sem]) rfl ?_
     exact ⟨ret_ei (by rw [hF.out, hE'.out]) (by rw [hF.out]), fun h => (by rw [hF.out, hE'.out] at h; simp at e0; exact absurd h e0), hTT⟩
  · obtain rfl : k = N := by omega
    have hF := Lib.hid (walk_end (by rw [hN'.out]; exact hwv))
    have hS' : TripS v vt kv g mb t l a wr := by rw [← hN'.out, List.take_length] at hS; exact hS
    have hkl := Lib.hid (show ((l.length : Nat) : Int) = k by rw [hN'.out])
    clear hS hwv
    go_wp2
    simp only [Exit.noGoto_ret]
    refine bodyPost_ret (v := .tuple #[.int .i64 0, .int .i64 k]) (by simp [results, Tryz.results94, go_sem]) rfl ?_
    exact ⟨ret_ei (by rw [hF.out]) (by rw [hF.out]; exact hkl.out.symm), fun _ => (by rw [hF.out]; exact hS'), hTw⟩
theorem reqCheck (q : Rq) (w : World) : Calls Tryz.prog 32 #[.agg #[.int .i64 q.fx, .int .i64 q.fy, .int .i64 q.tx, .int .i64 q.ty, .int .i64 q.pe, .int .i64 q.pl, .int .i64 q.de, .int .i64 q.dl, .int .i64 q.ld, .int .i64 q.sv]] w
 fun e w' => e = .returned (.int .i64 q.chk) ∧ Below w.heap.size w w' := Order.Check_any _ _ _ _ _ _ _ _ _ _ w
theorem vehCheck (v : Vh) (w : World) : Calls Tryz.prog 31 #[.agg #[.int .i64 v.hx, .int .i64 v.hy, .int .i64 v.cp, .int .i64 v.st, .int .i64 v.en]] w
 fun e w' => e = .returned (.int .i64 v.chk) ∧ Below w.heap.size w w' := Order.Vehicle_any _ _ _ _ _ w
theorem res_flt {fn : Func} {p : Tmp} (h : fn.results = #[.cell p 126]) {tmps : Array Value} {w : World} {g : Nat} {x0 x1 x2 : Value} (hp : tmps.getD p undef = .pointer (some ⟨g, 0, none⟩))
 (hA : At w g 126 #[x0, x1, x2]) : (results fn tmps).run Tryz.prog w = .ok (.agg #[x0, x1, x2]) w := by
 have hp' : tmps[p]?.getD undef = .pointer (some ⟨g, 0, none⟩) := by simpa using hp
 have c0 := hA.cell 0
 have c1 := hA.cell 1
 have c2 := hA.cell 2
 simp at c0 c1 c2
 simp only [results, h]
 go_simp
theorem ret_f3 {a b c : Int} {f : Int × Int × Int} (h : f = (a, b, c)) : Ending.returned (.agg #[.int .i64 a, .int .i64 b, .int .i64 c]) = .returned (.agg #[.int .i64 f.1, .int .i64 f.2.1, .int .i64 f.2.2]) := by rw [h]
section
variable {v : Vh} {l : List (Int × Int)} {t : List Rq} {P : Pace}
theorem look_v (h : v.chk ≠ 0) : lookV v l t P = (2, 0, 0) := by unfold lookV; rw [if_pos h]
theorem look_q {k : Nat} {q : Rq} (h : v.chk = 0) (hk : t[k]? = some q) (hq : q.chk ≠ 0) (ha : ∀ (j : Nat) (q : Rq), j < k → t[j]? = some q → q.chk = 0) : lookV v l t P = (2, 1, (k : Int)) := by
 have hb : badK t = k := by
  obtain ⟨hlt, hx⟩ := List.getElem?_eq_some_iff.1 hk
  have hs : t = t.take k ++ q :: t.drop (k + 1) := by rw [← hx, ← List.drop_eq_getElem_cons hlt, List.take_append_drop]
  have h1 := fstBad_at hq (pre := t.take k) (rest := t.drop (k + 1)) (k := 0) (fun x hx => by
   obtain ⟨j, hj⟩ := List.getElem?_of_mem hx
   have hj2 : j < k := by have := (List.getElem?_eq_some_iff.1 hj).1; rw [List.length_take] at this; omega
   rw [List.getElem?_take_of_lt hj2] at hj
   exact ha j x hj2 hj)
  unfold badK
  rw [hs, h1, List.length_take]
  omega
 unfold lookV
 rw [if_neg (by simpa using h), if_pos (by rw [hb]; omega), hb]
theorem look_w (h : v.chk = 0) (ha : ∀ q ∈ t, q.chk = 0) (hy : (walkV v t P [] (sp0 v) l).1 ≠ 0) : lookV v l t P = ((walkV v t P [] (sp0 v) l).1, 2, (((walkV v t P [] (sp0 v) l).2.1 : Nat) : Int)) := by
 unfold lookV
 rw [if_neg (by simpa using h), if_neg (by rw [badK_all ha]; omega)]
 simp only
 rw [if_pos hy]
theorem look_h (h : v.chk = 0) (ha : ∀ q ∈ t, q.chk = 0) (hy : (walkV v t P [] (sp0 v) l).1 = 0) : lookV v l t P = (homeE v t l (walkV v t P [] (sp0 v) l).2.2, 3, ((l.length : Nat) : Int)) := by
 unfold lookV
 rw [if_neg (by simpa using h), if_neg (by rw [badK_all ha]; omega)]
 simp only
 rw [if_neg (by simpa using hy)]
end
theorem put3f {w : World} {g : Nat} {t : TypeId} {x0 x1 x2 y0 y1 y2 : Value} (h : At w g t #[x0, x1, x2]) :
 At (((w.setCell ⟨g, 0, none⟩ y0).setCell ⟨g, 1, none⟩ y1).setCell ⟨g, 2, none⟩ y2) g t #[y0, y1, y2] := by
 simpa using ((h.put 0 y0).put 1 y1).put 2 y2
theorem below3 {B g : Nat} {W w : World} (h : Below B W w) (hg : B ≤ g) {y0 y1 y2 : Value} : Below B W (((w.setCell ⟨g, 0, none⟩ y0).setCell ⟨g, 1, none⟩ y1).setCell ⟨g, 2, none⟩ y2) := ((h.setCell hg _).setCell hg _).setCell hg _
theorem veh_bd {v : Vh} (h : v.chk = 0) : 0 ≤ v.st ∧ v.st ≤ 1048576 ∧ v.st ≤ v.en ∧ v.en ≤ 1048576 := by
 unfold Vh.chk at h
 have := (Order.veh_iff ..).1 h
 omega
theorem tripS_new {v : Vh} {vt kv : Value} {t : List Rq} {W : World} {m : Nat} (hv : v.chk = 0) (hm : W.heap.size = m) : TripS v vt kv (m + 1) m t [] (sp0 v) ((W.alloc (.map #[] 0)).alloc (.cells #[.int .i64 v.hx, .int .i64 v.hy, .int .i64 v.cp, .int .i64 v.st, .int .i64 v.en, vt, kv, .map (some m), .int .i64 0, .int .i64 v.hx, .int .i64 v.hy, .int .i64 v.st] 182)) := by
 have h1 := veh_bd hv
 refine ⟨At.new_ _ _ _ (by simp [hm]), FateAt.funs ?_ fateF_nil, ⟨h1.1, by show v.st ≤ _; omega⟩, by simp, by simp [acc]⟩
 have := (FateAt.made W).alloc (.cells #[.int .i64 v.hx, .int .i64 v.hy, .int .i64 v.cp, .int .i64 v.st, .int .i64 v.en, vt, kv, .map (some m), .int .i64 0, .int .i64 v.hx, .int .i64 v.hy, .int .i64 v.st] 182)
 rw [hm] at this
 exact this
theorem run_store_fn {P : Program} {w : World} {a : Addr} {m : Mode} (f : Fn) (xs cs : Array Value) : (store a (.func f xs cs) m).run P w = stored P w a (.func f xs cs) m := run_store P w a _ m rfl
attribute [local go_sem] run_store_fn
set_option maxRecDepth 100000 in
set_option maxHeartbeats 4000000 in
theorem lookN (v : Vh) (vl vt : Value) (n : Nat) (P : Pace) (hPB : PB P) (l : List (Int × Int)) (t : List Rq) (hl : l.length ≤ 1000000) (hnum : Nums l) (w : World) (hL : Row w.heap.size w vl l) (hT : Rqs w.heap.size w vt t)
 (hP : PassC (.func (.func n) #[] #[]) l.length w.heap.size w P) :
 Calls Tryz.prog 77 #[.agg #[.int .i64 v.hx, .int .i64 v.hy, .int .i64 v.cp, .int .i64 v.st, .int .i64 v.en], vl, vt, .func (.func n) #[] #[]] w fun e w' => e = .returned (.agg #[.int .i64 (lookV v l t P).1, .int .i64 (lookV v l t P).2.1, .int .i64 (lookV v l t P).2.2]) ∧ Below w.heap.size w w' := by
 have hv := vehCheck v
 obtain ⟨q, hq⟩ : ∃ q, w.heap.size = q := ⟨_, rfl⟩
 obtain ⟨w0, hw0⟩ : ∃ w0, (w.alloc (.cells #[.int .i64 v.hx, .int .i64 v.hy, .int .i64 v.cp, .int .i64 v.st, .int .i64 v.en] 32)).alloc (.cells #[.int .i64 0, .int .i64 0, .int .i64 0] 126) = w0 := ⟨_, rfl⟩
 have hV : At w0 q 32 #[.int .i64 v.hx, .int .i64 v.hy, .int .i64 v.cp, .int .i64 v.st, .int .i64 v.en] := by rw [← hw0]; exact (At.new_ _ _ _ hq.symm).alloc _
 have hF : At w0 (q + 1) 126 #[.int .i64 0, .int .i64 0, .int .i64 0] := by rw [← hw0]; exact At.new_ _ _ _ (by simp [hq])
 have hb0 : Below w.heap.size w w0 := by rw [← hw0]; exact ((Below.refl _ _).alloc (Nat.le_refl _) _).alloc (by simp) _
 obtain ⟨xl, Nl, capl, rfl, hNl, hl0, hlc1, hlc2⟩ := hL.opened
 obtain ⟨xt, Nt, capt, rfl, hNt0, htc1, htc2, ht0⟩ := hT.opened
 have hNt := Lib.hid hNt0
 clear hNt0 ht0 hl0
 unfold maxLen at htc2 hlc2
 obtain ⟨V, hV0⟩ : ∃ V, v.chk = V := ⟨_, rfl⟩
 simp only [hV0] at hv
 have hL' := Lib.hid hL
 have hT' := Lib.hid hT
 have hP' := Lib.hid hP
 have hV' := Lib.hid hV0
 have hw0' := Lib.hid hw0
 have hq' := Lib.hid hq
 have hnum' := Lib.hid hnum
 have hPB' := Lib.hid hPB
 have hl' := Lib.hid hl
 have hNl' : Hid (l.length = Nl) := hNl
 have hqle : w.heap.size ≤ q := by omega
 have hqle1 : w.heap.size ≤ q + 1 := by omega
 clear hl hnum hL hT hV0 hP hPB hw0 hq hNl
 have v0 := hV.cell 0
 have v1 := hV.cell 1
 have v2 := hV.cell 2
 have v3 := hV.cell 3
 have v4 := hV.cell 4
 simp at v0 v1 v2 v3 v4
 go_enter Tryz.func77, Tryz.ntmps77
 go_upto_region 1 with fail
 simp only [hq'.out]
 rw [hw0'.out]
 go_wp2_with fail
 refine (hv _).mono ?_
 rintro e w1 ⟨rfl, hb1⟩
 have hB := hb0.trans (hb1.mono hb0.size)
 have hV1 := hV.keep hb1 hV.inside
 have hF1 := hF.keep hb1 hF.inside
 clear hb0 hb1 hV hF hv v0 v1 v2 v3 v4
 cases hv0 : (V == 0)
 · have hv1 : (V != 0) = true := by simpa using hv0
   have hw := Lib.hid (look_v (l := l) (t := t) (P := P) (show v.chk ≠ 0 by rw [hV'.out]; simpa using hv0))
   have f0 := hF1.cell 0
   have f1 := hF1.cell 1
   have f2 := hF1.cell 2
   have ff := hF1.free
   simp at f0 f1 f2
   go_wp2
   exact bodyPost_ret (res_flt rfl rfl (put3f hF1)) rfl ⟨ret_f3 hw.out, below3 hB hqle1⟩
 · have hv1 : (V != 0) = false := by simpa using hv0
   have hz : Hid (v.chk = 0) := Lib.hid (by rw [hV'.out]; simpa using hv0)
   go_wp2
   go_loopw [20] (fun i wr => ∃ k : Nat, i = .int .i64 k ∧ k ≤ Nt ∧ (∀ (j : Nat) (q : Rq), j < k → t[j]? = some q → q.chk = 0) ∧ At wr q 32 #[.int .i64 v.hx, .int .i64 v.hy, .int .i64 v.cp, .int .i64 v.st, .int .i64 v.en] ∧ At wr (q + 1) 126 #[.int .i64 0, .int .i64 0, .int .i64 0] ∧ Below w.heap.size w wr) (fun i _ => Nt - (intOf i).toNat)
   case atStart => exact ⟨0, rfl, Nat.zero_le _, fun j q hj => by omega, hV1, hF1, hB⟩
   case round =>
    obtain ⟨k, rfl, hk, hall, hVr, hFr, hbw⟩ := hrel
    clear hB hV1 hF1
    by_cases hlt : k < Nt
    · obtain ⟨r, hr⟩ : ∃ r, t[k]? = some r := ⟨t[k]'(by rw [hNt.out]; exact hlt), List.getElem?_eq_getElem _⟩
      obtain ⟨g, o, rfl, hg, c0, c1, c2, c3, c4, c5, c6, c7, c8, c9⟩ := Rqs.at (hT'.out.keep hbw (Nat.le_refl _)) hr
      have hr' := Lib.hid hr
      have hall' := Lib.hid hall
      obtain ⟨w3, hw3⟩ : ∃ w3, wr.alloc (.cells #[.int .i64 r.fx, .int .i64 r.fy, .int .i64 r.tx, .int .i64 r.ty, .int .i64 r.pe, .int .i64 r.pl, .int .i64 r.de, .int .i64 r.dl, .int .i64 r.ld, .int .i64 r.sv] 43) = w3 := ⟨_, rfl⟩
      obtain ⟨m, hm⟩ : ∃ m, wr.heap.size = m := ⟨_, rfl⟩
      have hR : At w3 m 43 #[.int .i64 r.fx, .int .i64 r.fy, .int .i64 r.tx, .int .i64 r.ty, .int .i64 r.pe, .int .i64 r.pl, .int .i64 r.de, .int .i64 r.dl, .int .i64 r.ld, .int .i64 r.sv] := by rw [← hw3]; exact At.new_ _ _ _ hm.symm
      have hb3 : Below wr.heap.size wr w3 := by rw [← hw3]; exact (Below.refl _ _).alloc (Nat.le_refl _) _
      have hV3 := hVr.keep hb3 hVr.inside
      have hF3 := hFr.keep hb3 hFr.inside
      have hB3 := hbw.trans (hb3.mono hbw.size)
      have hw3' := Lib.hid hw3
      have hm' := Lib.hid hm
      have r0 := hR.cell 0
      have r1 := hR.cell 1
      have r2 := hR.cell 2
      have r3 := hR.cell 3
      have r4 := hR.cell 4
      have r5 := hR.cell 5
      have r6 := hR.cell 6
      have r7 := hR.cell 7
      have r8 := hR.cell 8
      have r9 := hR.cell 9
      simp at r0 r1 r2 r3 r4 r5 r6 r7 r8 r9
      clear hr hall hVr hFr hbw hb3 hw3 hm
      go_upto_region 6 with fail
      simp only [hm'.out]
      rw [hw3'.out]
      go_wp2_with fail
      refine (reqCheck r _).mono ?_
      rintro e w4 ⟨rfl, hb4⟩
      have hV4 := hV3.keep hb4 hV3.inside
      have hF4 := hF3.keep hb4 hF3.inside
      have hB4 := hB3.trans (hb4.mono hB3.size)
      clear hb4 hV3 hF3 hB3 c0 c1 c2 c3 c4 c5 c6 c7 c8 c9 r0 r1 r2 r3 r4 r5 r6 r7 r8 r9 hR
      obtain ⟨Q, hQ⟩ : ∃ Q, r.chk = Q := ⟨_, rfl⟩
      rw [hQ]
      have hQ' := Lib.hid hQ
      clear hQ
      cases hq0 : (Q == 0)
      · have hq1 : (Q != 0) = true := by simpa using hq0
        have hw := Lib.hid (look_q (l := l) (P := P) hz.out hr'.out (by rw [hQ'.out]; simpa using hq0) hall'.out)
        have f0 := hF4.cell 0
        have f1 := hF4.cell 1
        have f2 := hF4.cell 2
        have ff := hF4.free
        simp at f0 f1 f2
        go_wp2
        exact bodyPost_ret (res_flt rfl rfl (put3f hF4)) rfl ⟨ret_f3 hw.out, below3 hB4 hqle1⟩
      · have hq1 : (Q != 0) = false := by simpa using hq0
        have hz2 : Hid (r.chk = 0) := Lib.hid (by rw [hQ'.out]; simpa using hq0)
        go_wp2
        go_roundw
        case rel =>
         refine ⟨k + 1, by go_num, hlt, fun j x hj hx => ?_, hV4, hF4, hB4⟩
         rcases Nat.lt_or_ge j k with h | h
         · exact hall'.out j x h hx
         · obtain rfl : j = k := by omega
           rw [hr'.out] at hx
           cases hx
           exact hz2.out
        case measure => simp [intOf]; omega
    · obtain rfl : k = Nt := by omega
      have hall' : Hid (∀ q ∈ t, q.chk = 0) := Lib.hid (fun q hq => by
       obtain ⟨j, hj⟩ := List.getElem?_of_mem hq
       exact hall j q (by have := (List.getElem?_eq_some_iff.1 hj).1; rw [hNt.out] at this; omega) hj)
      clear hall
      obtain ⟨m, hm⟩ : ∃ m, wr.heap.size = m := ⟨_, rfl⟩
      obtain ⟨w3, hw3⟩ : ∃ w3, (wr.alloc (.map #[] 0)).alloc (.cells #[.int .i64 v.hx, .int .i64 v.hy, .int .i64 v.cp, .int .i64 v.st, .int .i64 v.en, .slice xt k capt, .func (.func n) #[] #[], .map (some m), .int .i64 0, .int .i64 v.hx, .int .i64 v.hy, .int .i64 v.st] 182) = w3 := ⟨_, rfl⟩
      have hS := tripS_new (vt := .slice xt k capt) (kv := .func (.func n) #[] #[]) (t := t) hz.out hm
      rw [hw3] at hS
      have hb3 : Below wr.heap.size wr w3 := by rw [← hw3]; exact ((Below.refl _ _).alloc (Nat.le_refl _) _).alloc (by simp) _
      have hBw3 := hbw.trans (hb3.mono hbw.size)
      have hF3 := hFr.keep hb3 hFr.inside
      have hBm : w.heap.size ≤ m := by have := hbw.size; omega
      have hqm : q + 1 < m := by have := hFr.inside; omega
      have hB3 : w.heap.size ≤ w3.heap.size := hBw3.size
      have hwk := walk_any v (.slice xl Nl capl) (.slice xt k capt) (.func (.func n) #[] #[]) (m + 1) m w.heap.size P hPB'.out l t w3 hl'.out hnum'.out hall'.out hz.out hS (hL'.out.keep hBw3 (Nat.le_refl _)) (hT'.out.keep hBw3 (Nat.le_refl _)) hB3 ⟨by omega, hBm⟩ (hP'.out.on hBw3)
      have hlw := Lib.hid (fun h => look_w (l := l) (t := t) (P := P) hz.out hall'.out h)
      have hlh := Lib.hid (fun h => look_h (l := l) (t := t) (P := P) hz.out hall'.out h)
      generalize walkV v t P [] (sp0 v) l = Y at *
      obtain ⟨C, K, a⟩ := Y
      simp only at hwk
      have hw3' := Lib.hid hw3
      have hm' := Lib.hid hm
      have hmm := @run_makeMap Tryz.prog
      have v0 := hVr.cell 0
      have v1 := hVr.cell 1
      have v2 := hVr.cell 2
      have v3 := hVr.cell 3
      have v4 := hVr.cell 4
      have hVm := hVr.alloc (.map #[] 0)
      have m0 := hVm.cell 0
      have m1 := hVm.cell 1
      have m2 := hVm.cell 2
      have m3 := hVm.cell 3
      have m4 := hVm.cell 4
      simp at v0 v1 v2 v3 v4
      simp at m0 m1 m2 m3 m4
      clear hS hb3 hw3 hm hbw hFr
      go_upto_region 10 with fail
      simp only [hm'.out]
      rw [hw3'.out]
      clear hmm v0 v1 v2 v3 v4 hVr m0 m1 m2 m3 m4 hVm
      go_wp2_with fail
      refine hwk.mono ?_
      clear hwk
      rintro e w4 ⟨rfl, hyes, hT4⟩
      have hF4 := At.two hF3 hT4 (by omega) (by omega)
      have hB4 := hBw3.trans (hT4.below (by omega) hBm hB3)
      clear hF3 hBw3 hT4
      cases hc0 : (C == 0)
      · have hc1 : (C != 0) = true := by simpa using hc0
        have hw := Lib.hid (hlw.out (by simpa using hc0))
        have f0 := hF4.cell 0
        have f1 := hF4.cell 1
        have f2 := hF4.cell 2
        have ff := hF4.free
        simp at f0 f1 f2
        clear hyes
        go_wp2
        exact bodyPost_ret (res_flt rfl rfl (put3f hF4)) rfl ⟨ret_f3 hw.out, below3 hB4 hqle1⟩
      · have hc1 : (C != 0) = false := by simpa using hc0
        obtain rfl : C = 0 := by simpa using hc0
        have hw := Lib.hid (hlh.out rfl)
        have hS4 := hyes rfl
        have hhm := home_any v _ _ _ _ t l a w4 hS4.now hS4.trip
        clear hyes hS4 hc0 hc1
        go_wp2_with fail
        refine hhm.mono ?_
        rintro e w5 ⟨rfl, hb5⟩
        have hF5 := hF4.keep hb5 hF4.inside
        have hB5 := hB4.trans (hb5.mono hB4.size)
        clear hb5 hF4 hB4 hhm
        have f0 := hF5.cell 0
        have f1 := hF5.cell 1
        have f2 := hF5.cell 2
        have ff := hF5.free
        simp at f0 f1 f2
        have hNN : Hid (((l.length : Nat) : Int) = Nl) := Lib.hid (by rw [hNl'.out])
        go_wp2
        exact bodyPost_ret (res_flt rfl rfl (put3f hF5)) rfl ⟨ret_f3 (by rw [hw.out, hNN.out]), below3 hB5 hqle1⟩
end Go.Proofs.YteclpblfleakhaaGreatDoor.Feas

import Derived.Test.YtlbghdiebjldjaaGreatDoorPkPlanSame
import Derived.Test.YtlbghdiebjldjaaGreatDoorPkPlanRefTot

namespace Go.Proofs.YtlbghdiebjldjaaGreatDoor.Plan
open Go.RowKit Go.Sort Go.Proofs.YtlbghdiebjldjaaGreatDoor.Mem Go.Proofs.YtlbghdiebjldjaaGreatDoor.Route Go.Proofs.YtlbghdiebjldjaaGreatDoor.When Go.Proofs.YtlbghdiebjldjaaGreatDoor.Load Go.Proofs.YtlbghdiebjldjaaGreatDoor.Ins Go.Proofs.YtlbghdiebjldjaaGreatDoor.Cheap
set_option linter.unusedVariables false
set_option maxHeartbeats 1000000 in
theorem Where_same {D G : Nat → Prop} {p : Nat} {S : St} (r : Int) (w : World) (h : PlanAt D G w p S) (hr : I64 r) :
 Calls Tryz.prog 30 #[.pointer (some ⟨p, 0, none⟩), .int .i64 r] w fun e w' => e = .returned (.int .i64 (whereV S.rows r)) ∧ w' = w := by
 obtain ⟨gt, gm, vt, cap, us, h⟩ := h
 have b2 := h.box.cell 2
 simp at b2
 have hp := h.box.inside
 have hkey := key_lit hr
 obtain ⟨D, hown, hD⟩ := h.map
 obtain ⟨h1, h2⟩ := hD r
 clear hD h
 by_cases hw : 0 ≤ whereV S.rows r
 · rw [whO_some hw] at h1 h2
   have h1' : Maps.has D (.int .i64 r) = true := h1
   have hc := Lib.hid h2
   clear h1 h2 hw
   go_enter Tryz.func30, Tryz.ntmps30
   go_wp2_with (at_lookup; refine wpList_lookup_own_ok_int _ rfl _ _ 80 rfl 3 3 .i64 (Maps.int_keyed Tryz.underlying3) Tryz.underlying80 Tryz.underlying3 (Tryz.zeroValue3 _) gm 1000 D rfl hown _ _ rfl hkey ?_; intro c hat hwc; rw [h1']; have hcc := Lib.hid (lit_inj (hat.symm.trans hc.out)); clear hat hwc)
   go_ret
   exact ⟨Route.ret_int hcc.out, rfl⟩
 · have hn := Lib.hid (where_no (where_neg.1 (by omega : whereV S.rows r < 0)))
   rw [whO_none hw] at h1
   have h1' : Maps.has D (.int .i64 r) = false := h1
   clear h1 h2 hw
   go_enter Tryz.func30, Tryz.ntmps30
   go_wp2_with (at_lookup; refine wpList_lookup_own_ok_int _ rfl _ _ 80 rfl 3 3 .i64 (Maps.int_keyed Tryz.underlying3) Tryz.underlying80 Tryz.underlying3 (Tryz.zeroValue3 _) gm 1000 D rfl hown _ _ rfl hkey ?_; intro c hat hwc; rw [h1']; clear hat hwc)
   go_ret
   exact ⟨Route.ret_int hn.out.symm, rfl⟩
theorem Has_same {D G : Nat → Prop} {p : Nat} {S : St} (r : Int) (w : World) (h : PlanAt D G w p S) (hr : I64 r) :
 Calls Tryz.prog 18 #[.pointer (some ⟨p, 0, none⟩), .int .i64 r] w fun e w' => e = .returned (.bool (decide (0 ≤ whereV S.rows r))) ∧ w' = w := by
 have hW := Where_same r w h hr
 obtain ⟨V, hV⟩ : ∃ V, whereV S.rows r = V := ⟨_, rfl⟩
 rw [hV] at hW ⊢
 clear hV
 go_enter Tryz.func18, Tryz.ntmps18
 go_wp2_with fail
 refine hW.mono ?_
 clear hW
 rintro e w2 ⟨rfl, rfl⟩
 by_cases hV : 0 ≤ V
 · have hd := Lib.hid (show true = decide (0 ≤ V) by simp [hV])
   go_wp2
   go_ret
   exact ⟨by first | rfl | exact Route.ret_bool hd.out, rfl⟩
 · have hd := Lib.hid (show false = decide (0 ≤ V) by simp [hV])
   go_wp2
   go_ret
   exact ⟨by first | rfl | exact Route.ret_bool hd.out, rfl⟩
theorem Where_any {D G : Nat → Prop} {p : Nat} {S : St} (r : Int) (w : World) (h : PlanAt D G w p S) (ho : Ok S) (hr : I64 r := by (first | assumption | (unfold I64; omega))) :
 Calls Tryz.prog 30 #[.pointer (some ⟨p, 0, none⟩), .int .i64 r] w fun e w' => e = .returned (.int .i64 (whereV S.rows r)) ∧ Below w.heap.size w w' :=
 (Where_same r w h hr).mono fun e w' ⟨h1, h2⟩ => ⟨h1, by rw [h2]; exact Below.refl _ _⟩
theorem Has_any {D G : Nat → Prop} {p : Nat} {S : St} (r : Int) (w : World) (h : PlanAt D G w p S) (ho : Ok S) (hr : I64 r := by (first | assumption | (unfold I64; omega))) :
 Calls Tryz.prog 18 #[.pointer (some ⟨p, 0, none⟩), .int .i64 r] w fun e w' => e = .returned (.bool (decide (0 ≤ whereV S.rows r))) ∧ Below w.heap.size w w' :=
 (Has_same r w h hr).mono fun e w' ⟨h1, h2⟩ => ⟨h1, by rw [h2]; exact Below.refl _ _⟩
theorem mem_allS {S : St} (h : Ok S) {r : Int} : r ∈ allS S ↔ (whO S r).isSome = true := by
 rw [whO_is]
 unfold allS
 rw [List.mem_filterMap]
 constructor
 · rintro ⟨k, hk, e⟩
   split at e
   · rename_i h1
     cases e
     exact h1
   · cases e
 · intro hw
   have h1 := h.inT hw
   refine ⟨r.toNat, List.mem_range.2 (by omega), ?_⟩
   have e : ((r.toNat : Nat) : Int) = r := by omega
   rw [e, if_pos hw]
theorem allS_rise (S : St) : Rise (allS S) := by
 unfold allS Rise
 rw [List.pairwise_filterMap]
 refine (List.pairwise_lt_range).imp fun {a b} hab x hx y hy => ?_
 split at hx
 · split at hy
   · cases hx; cases hy; omega
   · cases hy
 · cases hx
set_option maxHeartbeats 1000000 in
theorem All_any {D G : Nat → Prop} {p : Nat} {S : St} (w : World) (h : PlanAt D G w p S) (ho : Ok S) :
 Calls Tryz.prog 26 #[.pointer (some ⟨p, 0, none⟩)] w fun e w' => (∃ u, e = .returned u ∧ w'.ownsRow w.heap.size 3 1 u (allS S).length (flatI (allS S))) ∧ Below w.heap.size w w' := by
 obtain ⟨gt, gm, vt, cap, us, h⟩ := h
 have b2 := h.box.cell 2
 simp at b2
 have hp := h.box.inside
 have hS := Sorted_any gm 1000 (whO S) (by omega) (allS S) (allS_rise S) (fun r => mem_allS ho) w h.map
 clear h ho
 go_enter Tryz.func26, Tryz.ntmps26
 go_wp2_with (first
  | (go_at_call 57; refine (Keys_any _ _).mono ?_; rintro e w' ⟨rfl, rfl⟩)
  | (go_at_call 56; refine hS.mono ?_; rintro e w3 ⟨⟨v3, rfl, hv3⟩, hb3⟩))
 go_ret
 exact ⟨⟨_, rfl, hv3⟩, hb3⟩
set_option maxHeartbeats 1000000 in
theorem takes_any (v : Vh) (u vt : Value) (l : List (Int × Int)) (t : List Rq) (hl : l.length ≤ 1000000) (hnum : Nums l) (hst : 0 ≤ v.st ∧ v.st ≤ 1048576) (w : World) (hL : Row w.heap.size w u l) (hT : Rqs w.heap.size w vt t) :
 Calls Tryz.prog 48 #[.agg #[.int .i64 v.hx, .int .i64 v.hy, .int .i64 v.cp, .int .i64 v.st, .int .i64 v.en, u], vt] w fun e w' =>
  e = .returned (.int .i64 (homeT v l t - v.st)) ∧ Below w.heap.size w w' := by
 obtain ⟨q, hq⟩ : ∃ q, w.heap.size = q := ⟨_, rfl⟩
 obtain ⟨xu, Nu, cu, rfl, -⟩ := hL.opened
 obtain ⟨xt, Nt, ct, rfl, -⟩ := hT.opened
 obtain ⟨w1, hw1⟩ : ∃ w1, w.alloc (.cells #[.int .i64 v.hx, .int .i64 v.hy, .int .i64 v.cp, .int .i64 v.st, .int .i64 v.en, .slice xu Nu cu] 86) = w1 := ⟨_, rfl⟩
 have hA : At w1 q 86 #[.int .i64 v.hx, .int .i64 v.hy, .int .i64 v.cp, .int .i64 v.st, .int .i64 v.en, .slice xu Nu cu] := by rw [← hw1]; exact At.new_ _ _ _ hq.symm
 have hb1 : Below w.heap.size w w1 := by rw [← hw1]; exact (Below.refl _ _).alloc (Nat.le_refl _) _
 have hTm := Times_any v _ _ l t hl hnum w1 (hL.on hb1) (hT.on hb1)
 have hhb := homeT_bd v l t
 obtain ⟨H, hH⟩ : ∃ H, homeT v l t = H := ⟨_, rfl⟩
 rw [hH] at hTm hhb ⊢
 have a0 := hA.cell 0
 have a1 := hA.cell 1
 have a2 := hA.cell 2
 have a3 := hA.cell 3
 have a4 := hA.cell 4
 have a5 := hA.cell 5
 simp at a0 a1 a2 a3 a4 a5
 have hqi := hA.inside
 have hw1' := Lib.hid hw1
 have hq' := Lib.hid hq
 have hb1' := Lib.hid hb1
 have hsz := hb1.size
 clear hL hT hw1 hq hb1 hnum hH
 go_enter Tryz.func48, Tryz.ntmps48
 go_upto_region 1 with fail
 try simp only [hq'.out]
 try rw [hw1'.out]
 go_wp2_with fail
 refine hTm.mono ?_
 clear hTm
 rintro e w2 ⟨⟨u9, rfl, hu9⟩, hb2⟩
 have hA2 := hA.keep hb2 hqi
 have hB2 := Lib.hid (hb1'.out.trans (hb2.mono hsz))
 obtain ⟨y9, N9, c9, rfl, -⟩ := hu9.opened
 clear a0 a1 a2 a3 a4 a5 hb2 hu9
 have a3 := hA2.cell 3
 simp at a3
 have hq2 := hA2.inside
 clear hA hA2
 go_wp2
 go_ret
 exact ⟨rfl, hB2.out⟩
set_option maxRecDepth 100000 in
set_option maxHeartbeats 4000000 in
theorem Total_any {D G : Nat → Prop} {p : Nat} {S : St} (w : World) (h : PlanAt D G w p S) (ho : Ok S) :
 Calls Tryz.prog 17 #[.pointer (some ⟨p, 0, none⟩)] w fun e w' => e = .returned (.int .i64 (totS S)) ∧ Below w.heap.size w w' := by
 obtain ⟨gt, gm, vt, cap, us, h⟩ := h
 obtain ⟨xt, Nt, ct, rfl, hNt0, htc1, htc2, -⟩ := Rqs.opened (show Rqs w.heap.size w vt S.t from h.t.1)
 obtain ⟨hc1, hc2⟩ := h.bd
 unfold maxLen at htc2 hc2
 obtain ⟨N, hN0⟩ : ∃ N, S.vs.length = N := ⟨_, rfl⟩
 have hN4 : N ≤ 4 := by rw [← hN0]; exact ho.cnt.2
 have hbx := h.box
 rw [hN0] at hbx hc1
 have b0 := hbx.cell 0
 simp at b0
 have hp := h.box.inside
 have h' := Lib.hid h
 have ho' := Lib.hid ho
 have hbx' := Lib.hid hbx
 have hN := Lib.hid hN0
 clear h ho hNt0 hN0 hbx
 go_enter Tryz.func17, Tryz.ntmps17
 go_wp2
 go_loopw [3, 13] (fun n i wr => ∃ k : Nat, k ≤ N ∧ i = .int .i64 k ∧ n = .int .i64 (totK S k) ∧ Below w.heap.size w wr)
  (fun _ c _ => N - (intOf c).toNat)
 case atStart => exact ⟨0, Nat.zero_le _, rfl, by rw [totK_zero], Below.refl _ _⟩
 case round =>
  obtain ⟨k, hk, rfl, rfl, hbw⟩ := hrel
  have hA := h'.out.on hbw
  clear b0
  by_cases hlt : k < N
  · obtain ⟨v, hv⟩ : ∃ v, S.vs[k]? = some v := ⟨S.vs[k]'(by rw [hN.out]; exact hlt), List.getElem?_eq_getElem _⟩
    obtain ⟨l, hl⟩ : ∃ l, S.rows[k]? = some l := ⟨S.rows[k]'(by rw [ho'.out.len, hN.out]; exact hlt), List.getElem?_eq_getElem _⟩
    obtain ⟨u, hu, q0, q1, q2, q3, q4, q5⟩ := hA.cells hv
    have hrow := (hA.rows k u l hu hl).1
    have hgt := hA.gtIn
    obtain ⟨hd, he, -, hnum⟩ := ho'.out.dr k v l hv hl
    have hnx := Lib.hid (totK_next hv hl)
    have hbd := totK_bd ho'.out k (by rw [hN.out]; omega)
    have hst := ho'.out.stb hv
    have hhb := homeT_bd v l S.t
    have hl16 : l.length ≤ 1000000 := by have := hd.hn; omega
    have hkF : (k : Int) < (N : Int) := by omega
    have hkN := Lib.hid hlt
    obtain ⟨xu, Nu, cu, rfl, -⟩ := Row.opened (show Row wr.heap.size wr u l from hrow)
    obtain ⟨w1, hw1⟩ : ∃ w1, wr.alloc (.cells #[.int .i64 v.hx, .int .i64 v.hy, .int .i64 v.cp, .int .i64 v.st, .int .i64 v.en, .slice xu Nu cu] 86) = w1 := ⟨_, rfl⟩
    obtain ⟨q, hq⟩ : ∃ q, wr.heap.size = q := ⟨_, rfl⟩
    have hA1 : At w1 q 86 #[.int .i64 v.hx, .int .i64 v.hy, .int .i64 v.cp, .int .i64 v.st, .int .i64 v.en, .slice xu Nu cu] := by rw [← hw1]; exact At.new_ _ _ _ hq.symm
    have hb1 : Below wr.heap.size wr w1 := by rw [← hw1]; exact (Below.refl _ _).alloc (Nat.le_refl _) _
    have hP1 := hbx'.out.keep (hbw.trans (hb1.mono hbw.size)) hbx'.out.inside
    have hC := fun d os => Calls.regrown_of (takes_any v _ _ l S.t hl16 hnum hst (grow (redrawn w1 d) os) ((Row.on (show Row wr.heap.size wr _ l from hrow) hb1).on (below_regrown w1 d os)) ((Rqs.on (show Rqs wr.heap.size wr (.slice xt Nt ct) S.t from hA.t.1) hb1).on (below_regrown w1 d os)))
    obtain ⟨H, hH⟩ : ∃ H, homeT v l S.t = H := ⟨_, rfl⟩
    rw [hH] at hnx hhb hC
    have a0 := hA1.cell 0
    have a1 := hA1.cell 1
    have a2 := hA1.cell 2
    have a3 := hA1.cell 3
    have a4 := hA1.cell 4
    have a5 := hA1.cell 5
    have b1 := hP1.cell 1
    simp at a0 a1 a2 a3 a4 a5 b1
    have r0 := cell_regrown a0
    have r1 := cell_regrown a1
    have r2 := cell_regrown a2
    have r3 := cell_regrown a3
    have r4 := cell_regrown a4
    have r5 := cell_regrown a5
    have rb := cell_regrown b1
    have hqi := hA1.inside
    have hpi := hP1.inside
    have hb1' := Lib.hid (hbw.trans (hb1.mono hbw.size))
    have hbo' := Lib.hid hbw
    have hsz : w.heap.size ≤ w1.heap.size := hb1'.out.size
    have hw1' := Lib.hid hw1
    have hq' := Lib.hid hq
    obtain ⟨n0, hn0⟩ : ∃ n, totK S k = n := ⟨_, rfl⟩
    have hb3 : -(1048576 * 4) ≤ n0 ∧ n0 ≤ 3000000 * 4 := by rw [← hn0]; omega
    rw [hn0] at hnx ⊢
    clear hv hl hu hrow hd he hnum hbw hH hbd hA hn0 hw1 hq hb1 hA1 hP1
    have b0 := (hbx'.out.keep hbo'.out hbx'.out.inside).cell 0
    simp at b0
    have hpo := (hbx'.out.keep hbo'.out hbx'.out.inside).inside
    go_upto_region 7 with fail
    try simp only [hq'.out]
    rw [hw1'.out]
    clear q0 q1 q2 q3 q4 q5 b0
    refine wp_region_quiet_below (by kernel_rfl) (by kernel_rfl) ?_
    repeat (go_big_quiet_step (with_reducible exact hC _ _))
    refine wpQuiet_nil ?_
    intro _ hw'
    obtain ⟨⟨dr, osr⟩, hw''⟩ := hw'
    subst hw''
    have hB2 := Lib.hid (hb1'.out.trans ((below_regrown w1 dr osr).mono hsz))
    clear hC r0 r1 r2 r3 r4 r5 rb a0 a1 a2 a3 a4 a5 b1
    go_wp2
    go_roundw
    case rel => exact ⟨k + 1, hkN.out, by go_num, by rw [hnx.out]; go_num, hB2.out⟩
    case measure => simp [intOf]; omega
  · obtain rfl : k = N := by omega
    have he := Lib.hid (totK_all ho'.out hN.out.symm)
    clear hA
    go_wp2
    go_ret
    exact ⟨Route.ret_int he.out, hbw⟩
end Go.Proofs.YtlbghdiebjldjaaGreatDoor.Plan
namespace Go.Proofs.YtlbghdiebjldjaaGreatDoor.Plan
open Go.RowKit Go.Sort Go.Shelf Go.Proofs.YtlbghdiebjldjaaGreatDoor.Mem Go.Proofs.YtlbghdiebjldjaaGreatDoor.Route Go.Proofs.YtlbghdiebjldjaaGreatDoor.When Go.Proofs.YtlbghdiebjldjaaGreatDoor.Load Go.Proofs.YtlbghdiebjldjaaGreatDoor.Ins Go.Proofs.YtlbghdiebjldjaaGreatDoor.Cheap
set_option linter.unusedVariables false
theorem row_flatP {B : Nat} {W : World} {b : Addr} {N cap : Nat} {l : List (Int × Int)} (h : Row B W (.slice (some b) N cap) l) : ∀ j u, (flatS l)[j]? = some u → W.cell? (b.add j) = some u := by
 intro j u hj
 obtain ⟨i, k, r, e, hr, hu⟩ := flat_of (m := 2) (by decide) (fun r hr => by obtain ⟨s, _, rfl⟩ := List.mem_map.1 hr; rfl) j u hj
 obtain ⟨g, o, hx, hg, hc⟩ := RowB.row h hr
 cases hx
 have := hc k u hu
 rw [add_at, e, show o + (i * 2 + k) = o + i * 2 + k by omega]
 exact this
theorem info_req13 : (Tryz.prog.info? 72).map (fun i => (i.zero, i.size, i.bytes)) = some (some (.agg #[.int .i64 0, .int .i64 0, .int .i64 0, .int .i64 0, .int .i64 0, .int .i64 0, .int .i64 0, .int .i64 0, .int .i64 0, .int .i64 0]), 10, 80) := by kernel_rfl
theorem info_tour : (Tryz.prog.info? 86).map (fun i => (i.zero, i.size, i.bytes)) = some (some (.agg #[.int .i64 0, .int .i64 0, .int .i64 0, .int .i64 0, .int .i64 0, .slice none 0 0]), 6, 64) := by kernel_rfl
set_option maxRecDepth 100000 in
set_option maxHeartbeats 1000000 in
theorem CloneS_any (v : Value) (l : List (Int × Int)) (hl : l.length ≤ 1000000) (w : World) (h : Row w.heap.size w v l) :
 Calls Tryz.prog 41 #[v] w fun e w' => (∃ v', e = .returned v' ∧ w'.ownsRow w.heap.size 75 2 v' l.length (flatS l)) ∧ Below w.heap.size w w' := by
 obtain ⟨i0, hi, hz0, hz1, hz2⟩ := info_parts info_stop
 obtain ⟨x, N, cap, rfl, hN, h0, hc1, hc2⟩ := h.opened
 have hN0 := hN.out
 rw [hN0] at hl
 have q22 : ∀ (w : World) (a : Option Addr) (n c n' c' : Nat), (binOp .eql 59 (.slice a n c) (.slice none n' c')).run Tryz.prog w = .ok (.bool a.isNone) w := fun w a n c n' c' => Lib.run_eql_slice_nil w _ _ a n c n' c' Tryz.underlying59
 cases x with
 | none =>
  obtain ⟨hz, hz2⟩ := h0.out rfl
  have hl0 : l = [] := List.eq_nil_of_length_eq_zero (by omega)
  subst hl0
  simp at hN0
  subst hN0
  subst hz2
  clear h h0 hN
  go_enter Tryz.func41, Tryz.ntmps41
  go_wp2
  go_ret
  exact ⟨⟨_, rfl, World.ownsRow_nil _ _ _ _⟩, Below.refl _ _⟩
 | some b =>
  have h' := Lib.hid h
  clear h h0
  go_enter Tryz.func41, Tryz.ntmps41
  go_wp2_with (at_builtin; refine wpList_append_fresh rfl _ _ 59 rfl w.heap.size 75 i0 (.agg #[.int .i64 0, .int .i64 0]) 2 16 Tryz.underlying59 hi hz0 hz1 hz2 rfl (by decide) w.heap.size rfl (ownsEmptyQ rfl (Nat.le_refl _)) (.slice (some b) N cap) N ⟨_, _, rfl⟩ (.inr ⟨_, _, _, rfl⟩) (flatS l) rfl (by rw [flatS_length, hN.out]) (fun ad c e j u hj => by cases e; exact Lib.cell?_alloc_some _ (row_flatP h'.out j u hj)) flatS_one (by unfold maxLen; omega) (by omega) (by simp) ?_; intro v7 w7 hv7 hb7)
  have hf := Lib.hid (show w7.ownsRow w.heap.size 75 2 v7 l.length (flatS l) by rw [hN.out]; exact hv7)
  have hB := Lib.hid (((Below.refl _ w).alloc (Nat.le_refl _) (.cells #[] 75)).trans (hb7.mono (by simp)))
  clear hv7 hb7
  go_ret
  exact ⟨⟨_, rfl, hf.out⟩, hB.out⟩
set_option maxRecDepth 100000 in
set_option maxHeartbeats 1000000 in
theorem CloneQ_any (v : Value) (l : List Rq) (hl : l.length ≤ 1000000) (w : World) (h : Rqs w.heap.size w v l) (hp : Plain v) :
 Calls Tryz.prog 33 #[v] w fun e w' => (∃ v', e = .returned v' ∧ w'.ownsRow w.heap.size 72 10 v' l.length (flatQ l)) ∧ Below w.heap.size w w' := by
 obtain ⟨i0, hi, hz0, hz1, hz2⟩ := info_parts info_req13
 obtain ⟨x, N, cap, rfl, hN0, hc1, hc2, h0⟩ := Rqs.opened h
 have hN := Lib.hid hN0
 rw [hN0] at hl
 have q22 : ∀ (w : World) (a : Option Addr) (n c n' c' : Nat), (binOp .eql 29 (.slice a n c) (.slice none n' c')).run Tryz.prog w = .ok (.bool a.isNone) w := fun w a n c n' c' => Lib.run_eql_slice_nil w _ _ a n c n' c' Tryz.underlying29
 cases x with
 | none =>
  have hl0 : l = [] := h0 rfl
  subst hl0
  simp at hN0
  subst hN0
  clear h h0 hN hp
  go_enter Tryz.func33, Tryz.ntmps33
  go_wp2
  go_ret
  exact ⟨⟨_, rfl, World.ownsRow_nil _ _ _ _⟩, Below.refl _ _⟩
 | some b =>
  have h' := Lib.hid h
  clear h h0 hp hN0
  go_enter Tryz.func33, Tryz.ntmps33
  go_wp2_with (at_builtin; refine wpList_append_fresh rfl _ _ 29 rfl w.heap.size 72 i0 (.agg #[.int .i64 0, .int .i64 0, .int .i64 0, .int .i64 0, .int .i64 0, .int .i64 0, .int .i64 0, .int .i64 0, .int .i64 0, .int .i64 0]) 10 80 Tryz.underlying29 hi hz0 hz1 hz2 rfl (by decide) w.heap.size rfl (ownsEmptyQ rfl (Nat.le_refl _)) (.slice (some b) N cap) N ⟨_, _, rfl⟩ (.inr ⟨_, _, _, rfl⟩) (flatQ l) rfl (by rw [flatQ_length, hN.out]) (fun ad c e j u hj => by cases e; exact Lib.cell?_alloc_some _ (rqs_flat h'.out j u hj)) flatQ_one (by unfold maxLen; omega) (by omega) (by simp) ?_; intro v7 w7 hv7 hb7)
  have hf := Lib.hid (show w7.ownsRow w.heap.size 72 10 v7 l.length (flatQ l) by rw [hN.out]; exact hv7)
  have hB := Lib.hid (((Below.refl _ w).alloc (Nat.le_refl _) (.cells #[] 72)).trans (hb7.mono (by simp)))
  clear hv7 hb7
  go_ret
  exact ⟨⟨_, rfl, hf.out⟩, hB.out⟩
theorem CloneT_any {W0 : Nat} (g n cap : Nat) (xs : List Value) (hn : n ≤ 1000) (h1 : ∀ u ∈ xs, u.oneCell' = true) (w : World) (h : w.ownsRow W0 86 6 (.slice (some ⟨g, 0, none⟩) n cap) n xs) :
 Calls Tryz.prog 39 #[.slice (some ⟨g, 0, none⟩) n cap] w fun e w' => (∃ v', e = .returned v' ∧ w'.ownsRow w.heap.size 86 6 v' n xs) ∧ Below w.heap.size w w' := by
 obtain ⟨i0, hi, hz0, hz1, hz2⟩ := info_parts info_tour
 refine (AnyE.slices_Clone Tryz.cloneTA i0 (.agg #[.int .i64 0, .int .i64 0, .int .i64 0, .int .i64 0, .int .i64 0, .slice none 0 0]) 6 64 hi hz0 hz1 hz2 rfl (by decide) Tryz.sizeOf86 g 0 n cap xs w (by have := h.1; omega) (by unfold maxLen; omega) (by omega) (fun j u hj => ?_) h1).mono ?_
 · have hj2 := (List.getElem?_eq_some_iff.1 hj).1
   have := h.1
   rw [Nat.zero_add, h.cellAt j (by omega)]
   exact hj
 · rintro e w' ⟨v', h1, h2, -, h3⟩
   exact ⟨⟨v', h1, h2⟩, h3⟩
end Go.Proofs.YtlbghdiebjldjaaGreatDoor.Plan
namespace Go.Proofs.YtlbghdiebjldjaaGreatDoor.Plan
open Go.RowKit Go.Sort Go.Proofs.YtlbghdiebjldjaaGreatDoor.Mem Go.Proofs.YtlbghdiebjldjaaGreatDoor.Route Go.Proofs.YtlbghdiebjldjaaGreatDoor.When Go.Proofs.YtlbghdiebjldjaaGreatDoor.Load Go.Proofs.YtlbghdiebjldjaaGreatDoor.Ins Go.Proofs.YtlbghdiebjldjaaGreatDoor.Cheap
set_option linter.unusedVariables false
def RtsK (M : Nat) (W : World) (us : List Value) (S : St) : Prop := ∀ (i : Nat) u l, us[i]? = some u → S.rows[i]? = some l → W.ownsRow M 75 2 u l.length (flatS l)
set_option maxRecDepth 100000 in
set_option maxHeartbeats 4000000 in
theorem Routes_any {D G : Nat → Prop} {p : Nat} {S : St} (w : World) (h : PlanAt D G w p S) (ho : Ok S) :
 Calls Tryz.prog 24 #[.pointer (some ⟨p, 0, none⟩)] w fun e w' => (∃ u, e = .returned u ∧ ∃ us, RwsO w.heap.size w' u us S.rows) ∧ Below w.heap.size w w' := by
 obtain ⟨i0, hi, hz0, hz1, hz2⟩ := info_parts info_stops
 obtain ⟨gt, gm, vt, cap, us, h⟩ := h
 obtain ⟨hc1, hc2⟩ := h.bd
 unfold maxLen at hc2
 obtain ⟨N, hN0⟩ : ∃ N, S.vs.length = N := ⟨_, rfl⟩
 have hN4 : N ≤ 4 := by rw [← hN0]; exact ho.cnt.2
 have hbx := h.box
 rw [hN0] at hbx hc1
 have b0 := hbx.cell 0
 simp at b0
 have hp := h.box.inside
 have h' := Lib.hid h
 have ho' := Lib.hid ho
 have hbx' := Lib.hid hbx
 have hN := Lib.hid hN0
 obtain ⟨M, hM⟩ : ∃ M, w.heap.size = M := ⟨_, rfl⟩
 have hM' := Lib.hid hM
 rw [hM] at hp ⊢
 clear h ho hN0 hbx hM
 go_enter Tryz.func24, Tryz.ntmps24
 go_wp2
 go_loopw [3, 13] (fun u i wr => ∃ (k : Nat) (xs : List Value), k ≤ N ∧ i = .int .i64 k ∧ xs.length = k ∧ wr.ownsRow M 59 1 u k xs ∧ RtsK M wr xs S ∧ Below M w wr)
  (fun _ c _ => N - (intOf c).toNat)
 case atStart => exact ⟨0, [], Nat.zero_le _, rfl, rfl, World.ownsRow_nil _ _ _ _, fun i u l hu => by simp at hu, Below.refl _ _⟩
 case round =>
  obtain ⟨k, xs, hk, rfl, hxl, hown, hrts, hbw⟩ := hrel
  have hA := h'.out.on (by rw [hM'.out]; exact hbw)
  clear b0
  by_cases hlt : k < N
  · obtain ⟨v, hv⟩ : ∃ v, S.vs[k]? = some v := ⟨S.vs[k]'(by rw [hN.out]; exact hlt), List.getElem?_eq_getElem _⟩
    obtain ⟨l, hl⟩ : ∃ l, S.rows[k]? = some l := ⟨S.rows[k]'(by rw [ho'.out.len, hN.out]; exact hlt), List.getElem?_eq_getElem _⟩
    obtain ⟨u, hu, q0, q1, q2, q3, q4, q5⟩ := hA.cells hv
    have hrow := (hA.rows k u l hu hl).1
    have hgt := hA.gtIn
    obtain ⟨hd, -, -, -⟩ := ho'.out.dr k v l hv hl
    have hl16 : l.length ≤ 1000000 := by have := hd.hn; omega
    have hkF : (k : Int) < (N : Int) := by omega
    have hkN := Lib.hid hlt
    obtain ⟨xu, Nu, cu, rfl, -⟩ := Row.opened (show Row wr.heap.size wr u l from hrow)
    obtain ⟨w1, hw1⟩ : ∃ w1, wr.alloc (.cells #[.int .i64 v.hx, .int .i64 v.hy, .int .i64 v.cp, .int .i64 v.st, .int .i64 v.en, .slice xu Nu cu] 86) = w1 := ⟨_, rfl⟩
    obtain ⟨q, hq⟩ : ∃ q, wr.heap.size = q := ⟨_, rfl⟩
    have hA1 : At w1 q 86 #[.int .i64 v.hx, .int .i64 v.hy, .int .i64 v.cp, .int .i64 v.st, .int .i64 v.en, .slice xu Nu cu] := by rw [← hw1]; exact At.new_ _ _ _ hq.symm
    have hb1 : Below wr.heap.size wr w1 := by rw [← hw1]; exact (Below.refl _ _).alloc (Nat.le_refl _) _
    have hC := CloneS_any _ l hl16 w1 (Row.on (show Row wr.heap.size wr _ l from hrow) hb1)
    have ho1 := Lib.hid (owns_below hown hb1)
    have hr1 : Hid (RtsK M w1 xs S) := Lib.hid (fun i u l hu hl => owns_below (hrts i u l hu hl) hb1)
    have hMr : M ≤ wr.heap.size := by have := hbw.size; have := hM'.out; omega
    have hB1 := Lib.hid (hbw.trans (hb1.mono hMr))
    have hM1 : M ≤ w1.heap.size := Nat.le_trans hMr hb1.size
    have a5 := hA1.cell 5
    simp at a5
    have hqi := hA1.inside
    have hbo' := Lib.hid hbw
    have hw1' := Lib.hid hw1
    have hq' := Lib.hid hq
    have hl' := Lib.hid hl
    have hxl' := Lib.hid hxl
    clear hv hl hu hrow hd hbw hA hw1 hq hb1 hA1 hown hrts hxl
    have b0 := (hbx'.out.keep hbo'.out (by rw [← hM'.out]; exact hbx'.out.inside)).cell 0
    simp at b0
    have hpo := (hbx'.out.keep hbo'.out (by rw [← hM'.out]; exact hbx'.out.inside)).inside
    go_upto_region 7 with fail
    try simp only [hq'.out]
    rw [hw1'.out]
    clear q0 q1 q2 q3 q4 q5 b0
    go_wp2_with fail
    refine hC.mono ?_
    clear hC a5
    rintro e w2 ⟨⟨u2, rfl, hu2⟩, hb2⟩
    obtain ⟨y2, c2, rfl, -, -⟩ := owns_slice hu2
    have ho2 := owns_below ho1.out hb2
    have hr2 : Hid (RtsK M w2 xs S) := Lib.hid (fun i u l hu hl => owns_below (hr1.out i u l hu hl) hb2)
    have hu2' := Lib.hid (owns_more hu2 hM1)
    have hB2 := Lib.hid (hB1.out.trans (hb2.mono hM1))
    have hM2 : M ≤ w2.heap.size := Nat.le_trans hM1 hb2.size
    have hrowm := Lib.hid (owns_row ho2)
    clear hu2 hb2
    go_wp2_with (at_builtin; refine wpList_append_own _ rfl _ _ 57 rfl M 59 i0 (.slice none 0 0) 1 24 Tryz.underlying57 hi hz0 hz1 hz2 rfl (by decide) _ _ _ rfl (ho2.alloc _) ⟨w2.heap.size, 0, none⟩ 1 1 [.slice y2 l.length c2] rfl rfl (cell_one_new _ _ _) (by simp [Value.oneCell']) (by unfold maxLen; omega) (by omega) (by simp; omega) ?_; intro v7 w7 hown7 hgrow7 hnil7)
    have hB7 : Below M w w7 := (hB2.out.alloc hM2 _).grown hgrow7 (by simp; omega) hrowm.out
    have hkeep : ∀ {u l}, w2.ownsRow M 75 2 u l.length (flatS l) → w7.ownsRow M 75 2 u l.length (flatS l) := fun {u l} ho => by
     refine World.ownsRow.kept (ho.alloc _) hgrow7 ?_
     rcases hb9 : u.ownBlock with _ | g9
     · exact .inl rfl
     · right
       intro e9
       exact own_ne ho ho2 (by decide) g9 hb9 e9.symm
    go_roundw
    case rel =>
     refine ⟨k + 1, xs ++ [.slice y2 l.length c2], hkN.out, by go_num, by simp [hxl'.out], hown7, fun i u l' hu hl2 => ?_, hB7⟩
     by_cases hik : i < k
     · rw [List.getElem?_append_left (by rw [hxl'.out]; exact hik)] at hu
       exact hkeep (hr2.out i u l' hu hl2)
     · rw [List.getElem?_append_right (by rw [hxl'.out]; omega), hxl'.out] at hu
       have h0 : i - k = 0 := by
        have := (List.getElem?_eq_some_iff.1 hu).1
        simp at this
        omega
       obtain rfl : i = k := by omega
       rw [h0] at hu
       obtain rfl := Option.some.inj hu
       obtain rfl : l = l' := Option.some.inj (hl'.out.symm.trans hl2)
       exact hkeep hu2'.out
    case measure => simp [intOf]; omega
  · obtain rfl : k = N := by omega
    obtain ⟨y, c, rfl, -, -⟩ := owns_slice hown
    have hlen := Lib.hid (show S.rows.length = k by rw [ho'.out.len, hN.out])
    have hfin : Hid (RwsO M wr (.slice y k c) xs S.rows) := Lib.hid ⟨by rw [hlen.out]; exact hown, hrts⟩
    clear hA hown hrts
    go_wp2
    go_ret
    exact ⟨⟨_, rfl, _, hfin.out⟩, hbw⟩
end Go.Proofs.YtlbghdiebjldjaaGreatDoor.Plan
namespace Go.Proofs.YtlbghdiebjldjaaGreatDoor.Cheap
open Go.RowKit Go.Sort Go.Proofs.YtlbghdiebjldjaaGreatDoor.Mem Go.Proofs.YtlbghdiebjldjaaGreatDoor.Route Go.Proofs.YtlbghdiebjldjaaGreatDoor.When Go.Proofs.YtlbghdiebjldjaaGreatDoor.Load Go.Proofs.YtlbghdiebjldjaaGreatDoor.Ins Go.Proofs.YtlbghdiebjldjaaGreatDoor.Up
set_option linter.unusedVariables false
theorem res_way {fn : Func} {p : Tmp} (h : fn.results = #[.cell p 106]) {tmps : Array Value} {w : World} {g : Nat} {x0 x1 x2 : Value} (hp : tmps.getD p undef = .pointer (some ⟨g, 0, none⟩))
 (hA : At w g 106 #[x0, x1, x2]) : (results fn tmps).run Tryz.prog w = .ok (.agg #[x0, x1, x2]) w := by
 have hp' : tmps[p]?.getD undef = .pointer (some ⟨g, 0, none⟩) := by simpa using hp
 have c0 := hA.cell 0
 have c1 := hA.cell 1
 have c2 := hA.cell 2
 simp at c0 c1 c2
 simp only [results, h]
 go_simp
theorem put3 {w : World} {g : Nat} {t : TypeId} {a0 a1 a2 x0 x1 x2 : Value} (h : At w g t #[a0, a1, a2]) :
 At (((w.setCell ⟨g, 0, none⟩ x0).setCell ⟨g, 1, none⟩ x1).setCell ⟨g, 2, none⟩ x2) g t #[x0, x1, x2] := by
 simpa using ((h.put 0 x0).put 1 x1).put 2 x2
theorem ret_way {a b : Wy} (h : a = b) : Ending.returned (.agg (encW a)) = .returned (.agg (encW b)) := by rw [h]
theorem riseOf_any (y : Wy) (w : World) :
 Calls Tryz.prog 85 #[.agg #[.int .i64 y.i, .int .i64 y.j, .int .i64 y.n]] w fun e w' => e = .returned (.int .i64 y.n) ∧ Below w.heap.size w w' := by
 go_enter Tryz.func85, Tryz.ntmps85
 go_wp2
 go_ret
 exact ⟨rfl, (Below.refl _ _).alloc (Nat.le_refl _) _⟩
set_option maxRecDepth 100000 in
set_option maxHeartbeats 4000000 in
theorem lesser_any (a b : Wy) (w : World) :
 Calls Tryz.prog 84 #[.agg #[.int .i64 a.i, .int .i64 a.j, .int .i64 a.n], .agg #[.int .i64 b.i, .int .i64 b.j, .int .i64 b.n], .func (.func 85) #[] #[]] w fun e w' =>
  e = .returned (.agg (encW (lessW a b))) ∧ Below w.heap.size w w' := by
 obtain ⟨q, hq⟩ : ∃ q, w.heap.size = q := ⟨_, rfl⟩
 obtain ⟨w1, hw1⟩ : ∃ w1, ((w.alloc (.cells #[.int .i64 a.i, .int .i64 a.j, .int .i64 a.n] 106)).alloc (.cells #[.int .i64 b.i, .int .i64 b.j, .int .i64 b.n] 106)).alloc (.cells #[.int .i64 0, .int .i64 0, .int .i64 0] 106) = w1 := ⟨_, rfl⟩
 have hA : At w1 q 106 #[.int .i64 a.i, .int .i64 a.j, .int .i64 a.n] := by rw [← hw1]; exact ((At.new_ _ _ _ hq.symm).alloc _).alloc _
 have hB : At w1 (q + 1) 106 #[.int .i64 b.i, .int .i64 b.j, .int .i64 b.n] := by rw [← hw1]; exact (At.new_ _ _ _ (by simp [hq])).alloc _
 have hR : At w1 (q + 2) 106 #[.int .i64 0, .int .i64 0, .int .i64 0] := by rw [← hw1]; exact At.new_ _ _ _ (by simp [hq])
 have hb1 : Below q w w1 := by rw [← hw1]; exact (((Below.refl _ _).alloc (by omega) _).alloc (by simp; omega) _).alloc (by simp; omega) _
 have a0 := hA.cell 0
 have a1 := hA.cell 1
 have a2 := hA.cell 2
 have b0 := hB.cell 0
 have b1 := hB.cell 1
 have b2 := hB.cell 2
 simp at a0 a1 a2 b0 b1 b2
 have hs := hR.inside
 have hw1' := Lib.hid hw1
 have hq' := Lib.hid hq
 have hC1 := fun d os => Calls.regrown_of (riseOf_any a (grow (redrawn w1 d) os))
 have hC2 := fun d os => Calls.regrown_of (riseOf_any b (grow (redrawn w1 d) os))
 have e0 := cell_regrown a0
 have e1 := cell_regrown a1
 have e2 := cell_regrown a2
 have f0 := cell_regrown b0
 have f1 := cell_regrown b1
 have f2 := cell_regrown b2
 clear a0 a1 a2 b0 b1 b2 hw1 hq
 go_enter Tryz.func84, Tryz.ntmps84
 go_upto_region 1 with fail
 try simp only [hq'.out]
 try rw [hw1'.out]
 refine wp_region_quiet_below (by kernel_rfl) (by kernel_rfl) ?_
 repeat (go_big_quiet_step (first | with_reducible exact hC1 _ _ | with_reducible exact hC2 _ _))
 refine wpQuiet_nil ?_
 intro _ hw'
 obtain ⟨⟨dr, osr⟩, hw''⟩ := hw'
 subst hw''
 obtain ⟨w2, hw2⟩ : ∃ w2, grow (redrawn w1 dr) osr = w2 := ⟨_, rfl⟩
 have hg2 := below_regrown w1 dr osr
 rw [hw2] at hg2 ⊢
 have hA2 := hA.keep hg2 (by omega)
 have hB2 := hB.keep hg2 (by omega)
 have hR2 := hR.keep hg2 (by omega)
 have hb2 := hb1.trans (hg2.mono (by omega : q ≤ w1.heap.size))
 have c0 := hA2.cell 0
 have c1 := hA2.cell 1
 have c2 := hA2.cell 2
 have d0 := hB2.cell 0
 have d1 := hB2.cell 1
 have d2 := hB2.cell 2
 have r0 := hR2.cell 0
 have r1 := hR2.cell 1
 have r2 := hR2.cell 2
 have rf := hR2.free
 have hs2 := hR2.inside
 simp at c0 c1 c2 d0 d1 d2 r0 r1 r2
 have hR' := Lib.hid hR2
 have hb' := Lib.hid hb2
 clear hC1 hC2 e0 e1 e2 f0 f1 f2 hw2 hg2 hA hB hR hb1 hA2 hB2 hR2 hb2
 by_cases hl : b.n < a.n
 · have he := Lib.hid (show lessW a b = b by unfold lessW; rw [if_pos hl])
   go_wp2
   refine bodyPost_ret (res_way rfl rfl (by exact put3 hR'.out)) rfl ?_
   exact ⟨ret_way he.out.symm, by rw [hq'.out]; exact ((hb'.out.setCell (by simp <;> omega) _).setCell (by simp <;> omega) _).setCell (by simp <;> omega) _⟩
 · have he := Lib.hid (show lessW a b = a by unfold lessW; rw [if_neg hl])
   have hl' : a.n ≤ b.n := by omega
   go_wp2
   refine bodyPost_ret (res_way rfl rfl (by exact put3 hR'.out)) rfl ?_
   exact ⟨ret_way he.out.symm, by rw [hq'.out]; exact ((hb'.out.setCell (by simp <;> omega) _).setCell (by simp <;> omega) _).setCell (by simp <;> omega) _⟩
theorem keep_any (c : Nat) (a b : Wy) (w : World) (hc : At w c 106 (encW a)) :
 Calls Tryz.prog 83 #[.agg #[.int .i64 b.i, .int .i64 b.j, .int .i64 b.n], .pointer (some ⟨c, 0, none⟩)] w fun e w' =>
  (∃ u, e = .returned u) ∧ At w' c 106 (encW (lessW a b)) ∧ ∃ w1, Below w.heap.size w w1 ∧ w' = ((w1.setCell ⟨c, 0, none⟩ (.int .i64 (lessW a b).i)).setCell ⟨c, 1, none⟩ (.int .i64 (lessW a b).j)).setCell ⟨c, 2, none⟩ (.int .i64 (lessW a b).n) := by
 unfold encW at *
 obtain ⟨q, hq⟩ : ∃ q, w.heap.size = q := ⟨_, rfl⟩
 obtain ⟨w1, hw1⟩ : ∃ w1, w.alloc (.cells #[.int .i64 b.i, .int .i64 b.j, .int .i64 b.n] 106) = w1 := ⟨_, rfl⟩
 have hci := hc.inside
 have hB : At w1 q 106 #[.int .i64 b.i, .int .i64 b.j, .int .i64 b.n] := by rw [← hw1]; exact At.new_ _ _ _ hq.symm
 have hA : At w1 c 106 #[.int .i64 a.i, .int .i64 a.j, .int .i64 a.n] := by rw [← hw1]; exact hc.alloc _
 have hb1 : Below q w w1 := by rw [← hw1]; exact (Below.refl _ _).alloc (by omega) _
 have a0 := hA.cell 0
 have a1 := hA.cell 1
 have a2 := hA.cell 2
 have b0 := hB.cell 0
 have b1 := hB.cell 1
 have b2 := hB.cell 2
 simp at a0 a1 a2 b0 b1 b2
 have hs := hB.inside
 have hw1' := Lib.hid hw1
 have hq' := Lib.hid hq
 have hC := lesser_any a b w1
 clear hw1 hq
 go_enter Tryz.func83, Tryz.ntmps83
 go_upto_region 1 with fail
 try simp only [hq'.out]
 try rw [hw1'.out]
 go_wp2_with fail
 refine hC.mono ?_
 clear hC
 rintro e w2 ⟨rfl, hb2⟩
 have hA2 := hA.keep hb2 hA.inside
 have hB2 := hb1.trans (hb2.mono (by omega : q ≤ w1.heap.size))
 have c0 := hA2.cell 0
 have c1 := hA2.cell 1
 have c2 := hA2.cell 2
 have rf := hA2.free
 simp at c0 c1 c2
 have hci2 := hA2.inside
 clear a0 a1 a2 b0 b1 b2 hb2 hb1 hA hB
 unfold encW
 go_wp2
 go_end0
 exact ⟨⟨_, rfl⟩, put3 hA2, _, by first | exact hB2 | (rw [hq'.out]; exact hB2), rfl⟩
theorem keep_in (args : Array Value) (w : World) : (callFunc 83 args).run Tryz.prog w = .ok (.enter 83 args) w := by
 simp [callFunc, Tryz.func83]
 rfl
end Go.Proofs.YtlbghdiebjldjaaGreatDoor.Cheap

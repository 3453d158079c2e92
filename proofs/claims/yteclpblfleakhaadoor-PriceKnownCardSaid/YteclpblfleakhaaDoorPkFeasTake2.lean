import Derived.Test.YteclpblfleakhaaDoorPkFeasMath

namespace Go.Proofs.YteclpblfleakhaaDoor.Feas
open Go.RowKit Go.Sort Go.Proofs.YteclpblfleakhaaDoor.Mem Go.Proofs.YteclpblfleakhaaDoor.Route Go.Proofs.YteclpblfleakhaaDoor.When Go.Proofs.YteclpblfleakhaaDoor.Load Go.Proofs.YteclpblfleakhaaDoor.Float Go.Proofs.YteclpblfleakhaaDoor.Tail
set_option linter.unusedVariables false
theorem stB_out {t : List Rq} {pre : List (Int × Int)} {s1 s2 : Int} (h : inT t s1 = false) : stB t pre (s1, s2) = false := by simp [stB, h]
theorem stB_val {t : List Rq} {pre : List (Int × Int)} {s1 s2 : Int} {c : Nat} (h : inT t s1 = true) (hc : (ofR s1 pre).length = c) (b : Bool) (hb : ((decide (s2 = 0) && decide ((c : Int) = 0)) || (decide (s2 = 1) && decide ((c : Int) = 1))) = b) : stB t pre (s1, s2) = b := by
 rw [← hb, Bool.eq_iff_iff, stB_iff]
 simp only [nR, hc, Bool.or_eq_true, Bool.and_eq_true, decide_eq_true_eq]
 simp only [inT, Bool.and_eq_true, decide_eq_true_eq] at h
 constructor
 · rintro ⟨_, h1, h2⟩; omega
 · intro h1; exact ⟨h, by omega, by omega⟩
theorem acc_pick {t : List Rq} {pre : List (Int × Int)} {r : Int} {q : Rq} (h : t[r.toNat]? = some q) : acc t pre + q.ld = acc t (pre ++ [(r, 0)]) := by rw [acc_snoc]; simp [stN, sg, ldR_get h]
theorem acc_drop {t : List Rq} {pre : List (Int × Int)} {r : Int} {q : Rq} (h : t[r.toNat]? = some q) : acc t pre - q.ld = acc t (pre ++ [(r, 1)]) := by rw [acc_snoc]; simp [stN, sg, ldR_get h]; omega
theorem own_same {w v : World} {b n : Nat} {D : DataW Unit} (h : w.ownsMap Tryd.prog 3 (plainElem Tryd.prog 183) b n D) (e : v.heap[b]? = w.heap[b]?) : v.ownsMap Tryd.prog 3 (plainElem Tryd.prog 183) b n D := by
 obtain ⟨es, clock, h1, h2⟩ := h
 exact ⟨es, clock, e.trans h1, h2⟩
theorem fate_wf {c : Int} (h : c = 1 ∨ c = 2) : (Lit.int .i64 c).wf = true := I64.wf ⟨by omega, by omega⟩
set_option maxRecDepth 100000 in
set_option maxHeartbeats 4000000 in
theorem take_any (hx hy cp st en px py now : Int) (vt kv : Value) (g mb n B : Nat) (t : List Rq) (pre : List (Int × Int)) (s1 s2 : Int) (w : World) (hn : n < 1000000) (hI : I64 s1) (hacc : -1000000000 ≤ acc t pre ∧ acc t pre ≤ 1000000000) (hld : ∀ q ∈ t, 1 ≤ q.ld ∧ q.ld ≤ 1000)
 (hg : At w g 135 #[.int .i64 hx, .int .i64 hy, .int .i64 cp, .int .i64 st, .int .i64 en, vt, kv, .map (some mb), .int .i64 (acc t pre), .int .i64 px, .int .i64 py, .int .i64 now]) (hm : FateAt w mb n (fateF pre)) (hT : Rqs B w vt t) (hB : B ≤ w.heap.size) (hBg : B ≤ g ∧ B ≤ mb) :
 Calls Tryd.prog 81 #[.pointer (some ⟨g, 0, none⟩), .agg #[.int .i64 s1, .int .i64 s2]] w fun e w' =>
  e = .returned (.bool (stB t pre (s1, s2))) ∧ (stB t pre (s1, s2) = true → At w' g 135 #[.int .i64 hx, .int .i64 hy, .int .i64 cp, .int .i64 st, .int .i64 en, vt, kv, .map (some mb), .int .i64 (acc t (pre ++ [(s1, s2)])), .int .i64 px, .int .i64 py, .int .i64 now] ∧ FateAt w' mb (n + 1) (fateF (pre ++ [(s1, s2)]))) ∧ Two g mb w w' := by
 obtain ⟨xt, N, cap, rfl, hN, hc1, hc2, hx0⟩ := hT.opened
 have hgm : mb ≠ g := hm.no_cells hg
 obtain ⟨m, hmq⟩ : ∃ m, w.heap.size = m := ⟨_, rfl⟩
 obtain ⟨w1, hw1⟩ : ∃ w1, w.alloc (.cells #[.int .i64 s1, .int .i64 s2] 61) = w1 := ⟨_, rfl⟩
 have hS : At w1 m 61 #[.int .i64 s1, .int .i64 s2] := by rw [← hw1]; exact At.new_ _ _ _ hmq.symm
 have hG : At w1 g 135 #[.int .i64 hx, .int .i64 hy, .int .i64 cp, .int .i64 st, .int .i64 en, .slice xt N cap, kv, .map (some mb), .int .i64 (acc t pre), .int .i64 px, .int .i64 py, .int .i64 now] := by rw [← hw1]; exact hg.alloc _
 have hM : FateAt w1 mb n (fateF pre) := by rw [← hw1]; exact hm.alloc _
 have hb1 : Below w.heap.size w w1 := by rw [← hw1]; exact (Below.refl _ _).alloc (Nat.le_refl _) _
 have hT1 := hT.keep hb1 hB
 have hTw : Two g mb w w1 := .of_below hb1
 have hgi := hg.inside
 have hmi := hm.inside
 have hgne : g ≠ m := by omega
 have hmne : mb ≠ m := by omega
 have hw1' := Lib.hid hw1
 have hmq' := Lib.hid hmq
 have hx0' := Lib.hid hx0
 have hN' := Lib.hid hN
 have hld' := Lib.hid hld
 clear hg hm hT hw1 hmq hx0 hN hld hb1
 obtain ⟨A, hA⟩ : ∃ A, acc t pre = A := ⟨_, rfl⟩
 rw [hA] at hG hacc
 have hA' := Lib.hid hA
 obtain ⟨ha1, ha2⟩ := hacc
 have s0 := hS.cell 0
 have s1' := hS.cell 1
 have g5 := hG.cell 5
 simp at s0 s1' g5
 clear hA hgi hmi
 cases d0 : decide (s1 < 0)
 case true =>
  have hF := Lib.hid (stB_out (t := t) (pre := pre) (s1 := s1) (s2 := s2) (by simp [inT]; have := of_decide_eq_true d0; omega))
  go_enter Tryd.func81, Tryd.ntmps81
  go_wp2_with fail
  rw [hw1'.out]
  simp only [hmq'.out]
  go_quiet (fail)
  go_wp2
  go_ret
  exact ⟨ret_bool hF.out.symm, fun h => (by rw [hF.out] at h; cases h), hTw.on (below_drewN (Below.refl _ _) nq)⟩
 case false =>
 cases d1 : decide ((N : Int) ≤ s1)
 case true =>
  have hF := Lib.hid (stB_out (t := t) (pre := pre) (s1 := s1) (s2 := s2) (by simp [inT]; have := of_decide_eq_true d1; have := hN'.out; intro _; omega))
  go_enter Tryd.func81, Tryd.ntmps81
  go_wp2_with fail
  rw [hw1'.out]
  simp only [hmq'.out]
  go_quiet (fail)
  go_wp2
  go_ret
  exact ⟨ret_bool hF.out.symm, fun h => (by rw [hF.out] at h; cases h), hTw.on (below_drewN (Below.refl _ _) nq)⟩
 case false =>
 have e0 := of_decide_eq_false d0
 have e1 := of_decide_eq_false d1
 have hi : inT t s1 = true := by simp only [inT, Bool.and_eq_true, decide_eq_true_eq]; have := hN'.out; omega
 obtain ⟨q, hq, _, _⟩ := inT_get hi
 obtain ⟨k, rfl⟩ : ∃ k : Nat, s1 = k := ⟨s1.toNat, by omega⟩
 have hqk : t[k]? = some q := by simpa using hq
 have hkey := key_lit hI
 obtain ⟨c, hc⟩ : ∃ c : Nat, (ofR (k : Int) pre).length = c := ⟨_, rfl⟩
 have hst := Lib.hid (fun b hb => stB_val (t := t) (pre := pre) (s1 := k) (s2 := s2) hi hc b hb)
 obtain ⟨b, o, rfl, hbl, c0, c1, c2, c3, c4, c5, c6, c7, c8, c9⟩ := hT1.at hqk
 have hq1 := Lib.hid (acc_pick (t := t) (pre := pre) (r := k) hq)
 have hq2 := Lib.hid (acc_drop (t := t) (pre := pre) (r := k) hq)
 have hlq := hld'.out q (List.mem_of_getElem? hqk)
 obtain ⟨hl1, hl2⟩ := hlq
 have hk1 : k < N := by omega
 have hk2 : ((k : Int) < N) := by omega
 have g7 := hG.cell 7
 simp at g7
 have hMf := Lib.hid (fun q => fateF_next pre ((k : Int), s2) q)
 have hc' := Lib.hid hc
 clear hq hqk hi hT1 hc hI hc2
 go_enter Tryd.func81, Tryd.ntmps81
 go_wp2_with fail
 rw [hw1'.out]
 simp only [hmq'.out]
 go_quiet (fail)
 have hG2 := hG.drewN nq
 have hS2 := hS.drewN nq
 have hM2 : FateAt (w1.drewN nq) mb n (fateF pre) := hM.same rfl
 have hb2 : Below w1.heap.size w1 (w1.drewN nq) := below_drewN (Below.refl _ _) nq
 have hTw2 := hTw.on hb2
 have hbl1 : b < w1.heap.size := by have := hS.inside; have := hmq'.out; omega
 have d0' := (hb2.cell (p := ⟨b, o + k * 10 + 8, none⟩) hbl1).trans c8
 clear c0 c1 c2 c3 c4 c5 c6 c7 c8 c9 s0 s1' g5 g7 hG hS hM hb2 hTw hw1' hbl1
 generalize w1.drewN nq = w2 at *
 have s0 := hS2.cell 0
 have g5 := hG2.cell 5
 have g7 := hG2.cell 7
 simp at s0 g5 g7
 obtain ⟨D, hown, hD⟩ := hM2
 have hcc : D.atKey (.int .i64 (k : Int)) (.lit (.int .i64 0)) = .lit (.int .i64 (c : Int)) := by rw [(hD k).2, fateF_get, hc'.out]
 have klook : ∀ n, (Instr.lookup 133 (.map (some mb)) (.int .i64 (k : Int)) false).run Tryd.prog (w2.drewN n) = .ok (.int .i64 (c : Int)) (w2.drewN n) := by
  intro n
  have hown2 : (w2.drewN n).ownsMap Tryd.prog 3 (plainElem Tryd.prog 183) mb _ D := hown
  obtain ⟨c2, hr2, ha2, _⟩ := hown2.lookup_int (t := 133) (Maps.int_keyed Tryd.underlying3) Tryd.underlying133 Tryd.underlying183 (Tryd.zeroValue183 _) hkey
  have : c2 = c := lit_inj (ha2.symm.trans hcc)
  rw [hr2, this]
 have hD' := Lib.hid hD
 clear hcc hD
 go_upto_region 3 with fail
 go_quiet (fail)
 have hG3 := hG2.drewN nq
 have hS3 := hS2.drewN nq
 have hown3 : (w2.drewN nq).ownsMap Tryd.prog 3 (plainElem Tryd.prog 183) mb n D := hown
 have hTw3 := hTw2.on (below_drewN (Below.refl w2.heap.size w2) nq)
 clear klook s0 g5 g7 hG2 hS2 hTw2 hown d0'
 generalize w2.drewN nq = w3 at *
 have s0 := hS3.cell 0
 have s1' := hS3.cell 1
 have g7 := hG3.cell 7
 simp at s0 s1' g7
 cases z0 : (s2 == 0)
 case true =>
  obtain rfl : s2 = 0 := by simpa using z0
  clear z0
  cases z1 : ((c : Int) == 0)
  case true =>
   obtain rfl : c = 0 := by simpa using z1
   clear z1
   have hF := Lib.hid (hst.out true (by simp))
   have ks0 := cell_regrown s0
   have kg7 := cell_regrown g7
   go_upto_region 6 with fail
   refine wp_region_below_tail 6 (by kernel_rfl) (by kernel_rfl) (by kernel_rfl) ?_
   simp only [List.take_succ_cons, List.take_zero, List.drop_succ_cons, List.drop_zero]
   repeat (go_big_quiet_step (fail))
   refine wpQuiet_nil ?_
   intro _ hw'
   obtain ⟨⟨dq, osq⟩, hw''⟩ := hw'
   subst hw''
   have hb4 := below_regrown w3 dq osq
   have hG4 := hG3.keep hb4 hG3.inside
   have hown4 := own_same hown3 (hb4.block mb hown3.lt)
   have hTw4 := hTw3.on hb4
   clear ks0 kg7 s0 s1' g7 hG3 hS3 hTw3 hown3 hb4
   generalize grow (redrawn w3 dq) osq = w4 at *
   go_upto_region 7 with (at_mapUpdate; refine wpList_mapUpdate_own _ rfl _ _ _ 133 rfl 3 183 (Maps.int_keyed Tryd.underlying3) Tryd.underlying133 _ mb n D rfl hown4 (by unfold maxLen; omega) _ _ _ rfl rfl hkey _ [] (plainElem_int Tryd.underlying183 (fate_wf (.inl rfl))) ?_; intro w5 hown5 hgrow5)
   have hG5 : At w5 g 135 _ := (hgrow5.block g hG4.inside (fun e => by cases e; exact hgm rfl)).trans hG4
   have hM5 : FateAt w5 mb (n + 1) (fateF (pre ++ [((k : Int), 0)])) := FateAt.funs ⟨_, hown5, put_tells hown4.isMap hD'.out trivial⟩ (fun q => by rw [hMf.out q, hc'.out]; rfl)
   have hTw5 := hTw4.trans (.grown hgrow5 (fun r e => by cases e; exact .inr rfl))
   clear hown4 hown5 hgrow5 hG4 hTw4
   have g8 := hG5.cell 8
   have gf := hG5.free
   have hgi := hG5.inside
   simp at g8
   go_wp2
   go_ret
   refine ⟨ret_bool hF.out.symm, fun _ => ⟨?_, hM5.far hgm _⟩, hTw5.trans (.setG _ _ _ _ _)⟩
   rw [← hq1.out, hA'.out]
   simpa using hG5.put 8 (.int .i64 (A + q.ld))
  case false =>
   have hF := Lib.hid (hst.out false (by simp at z1 ⊢; exact z1))
   go_wp2
   go_ret
   exact ⟨ret_bool hF.out.symm, fun h => (by rw [hF.out] at h; cases h), hTw3⟩
 case false =>
  cases z2 : (s2 == 1)
  case true =>
   obtain rfl : s2 = 1 := by simpa using z2
   clear z2 z0
   cases z3 : ((c : Int) == 1)
   case true =>
    obtain rfl : c = 1 := by have : (c : Int) = 1 := (by simpa using z3); omega
    clear z3
    have hF := Lib.hid (hst.out true (by simp))
    have ks0 := cell_regrown s0
    have kg7 := cell_regrown g7
    go_upto_region 9 with fail
    refine wp_region_below_tail 6 (by kernel_rfl) (by kernel_rfl) (by kernel_rfl) ?_
    simp only [List.take_succ_cons, List.take_zero, List.drop_succ_cons, List.drop_zero]
    repeat (go_big_quiet_step (fail))
    refine wpQuiet_nil ?_
    intro _ hw'
    obtain ⟨⟨dq, osq⟩, hw''⟩ := hw'
    subst hw''
    have hb4 := below_regrown w3 dq osq
    have hG4 := hG3.keep hb4 hG3.inside
    have hown4 := own_same hown3 (hb4.block mb hown3.lt)
    have hTw4 := hTw3.on hb4
    clear ks0 kg7 s0 s1' g7 hG3 hS3 hTw3 hown3 hb4
    generalize grow (redrawn w3 dq) osq = w4 at *
    go_upto_region 10 with (at_mapUpdate; refine wpList_mapUpdate_own _ rfl _ _ _ 133 rfl 3 183 (Maps.int_keyed Tryd.underlying3) Tryd.underlying133 _ mb n D rfl hown4 (by unfold maxLen; omega) _ _ _ rfl rfl hkey _ [] (plainElem_int Tryd.underlying183 (fate_wf (.inr rfl))) ?_; intro w5 hown5 hgrow5)
    have hG5 : At w5 g 135 _ := (hgrow5.block g hG4.inside (fun e => by cases e; exact hgm rfl)).trans hG4
    have hM5 : FateAt w5 mb (n + 1) (fateF (pre ++ [((k : Int), 1)])) := FateAt.funs ⟨_, hown5, put_tells hown4.isMap hD'.out trivial⟩ (fun q => by rw [hMf.out q, hc'.out]; rfl)
    have hTw5 := hTw4.trans (.grown hgrow5 (fun r e => by cases e; exact .inr rfl))
    clear hown4 hown5 hgrow5 hG4 hTw4
    have g8 := hG5.cell 8
    have gf := hG5.free
    have hgi := hG5.inside
    simp at g8
    go_wp2
    go_ret
    refine ⟨ret_bool hF.out.symm, fun _ => ⟨?_, hM5.far hgm _⟩, hTw5.trans (.setG _ _ _ _ _)⟩
    rw [← hq2.out, hA'.out]
    simpa using hG5.put 8 (.int .i64 (A - q.ld))
   case false =>
    have hF := Lib.hid (hst.out false (by simp at z3 ⊢; exact z3))
    go_wp2
    go_ret
    exact ⟨ret_bool hF.out.symm, fun h => (by rw [hF.out] at h; cases h), hTw3⟩
  case false =>
   have hF := Lib.hid (hst.out false (by simp at z0 z2; simp [z0, z2]))
   go_wp2
   go_ret
   exact ⟨ret_bool hF.out.symm, fun h => (by rw [hF.out] at h; cases h), hTw3⟩
end Go.Proofs.YteclpblfleakhaaDoor.Feas
namespace Go.Proofs.YteclpblfleakhaaDoor.Feas
open Go.RowKit Go.Sort Go.Proofs.YteclpblfleakhaaDoor.Mem Go.Proofs.YteclpblfleakhaaDoor.Route Go.Proofs.YteclpblfleakhaaDoor.When Go.Proofs.YteclpblfleakhaaDoor.Load Go.Proofs.YteclpblfleakhaaDoor.Float Go.Proofs.YteclpblfleakhaaDoor.Tail Go.Proofs.YteclpblfleakhaaDoor.Place
set_option linter.unusedVariables false
def OkVi (x : Vi) : Prop := 0 ≤ x.we ∧ x.we ≤ x.wl ∧ x.wl ≤ 1048576 ∧ 0 ≤ x.sv ∧ x.sv ≤ 1000
def PaceC (n : Nat) (lb : Array Value) (L : Nat) (w : World) (B : Nat) (P : Pace) : Prop :=
 ∀ (w' : World), Below B w w' → ∀ (k : Nat) (x : Vi) (m : Int), k < L → OkVi x → 0 ≤ m → m ≤ 1000000000 →
  Calls Tryd.prog n (#[.int .i64 k, .agg #[.int .i64 x.px, .int .i64 x.py, .int .i64 x.we, .int .i64 x.wl, .int .i64 x.sv], .int .i64 m] ++ lb) w' fun e w'' => e = .returned (.tuple #[.int .i64 (P k x m).1, .bool (P k x m).2]) ∧ Below w'.heap.size w' w''
theorem PaceC.on {n : Nat} {lb : Array Value} {L : Nat} {w w1 : World} {B : Nat} {P : Pace} (h : PaceC n lb L w B P) (hb : Below B w w1) : PaceC n lb L w1 B P := fun w' hw' => h w' (hb.trans hw')
theorem Two.weak {g m : Nat} {w w' : World} (h : Two g g w w') : Two g m w w' := ⟨h.os, h.tape, h.output, h.size, fun k hk hn _ => h.block k hk hn hn⟩
theorem Two.fate {g mb n : Nat} {w w' : World} {f : Int → Option Int} (h : Two g g w w') (hM : FateAt w mb n f) (hne : mb ≠ g) : FateAt w' mb n f := hM.same (h.block mb hM.inside hne hne)
theorem put_trip {w : World} {g : Nat} {t : TypeId} {x0 x1 x2 x3 x4 x5 x6 x7 x8 x9 x10 x11 y9 y10 y11 : Value} (h : At w g t #[x0, x1, x2, x3, x4, x5, x6, x7, x8, x9, x10, x11]) :
 At (((w.setCell ⟨g, 9, none⟩ y9).setCell ⟨g, 10, none⟩ y10).setCell ⟨g, 11, none⟩ y11) g t #[x0, x1, x2, x3, x4, x5, x6, x7, x8, y9, y10, y11] := by
 simpa using ((h.put 9 y9).put 10 y10).put 11 y11
theorem dist_bd (a b : Int × Int) : 0 ≤ distV a b ∧ distV a b ≤ 100000 := by
 unfold distV
 split
 · rename_i h
   rw [Bool.and_eq_true] at h
   have h1 := (mayB_iff _).1 h.1
   have h2 := (mayB_iff _).1 h.2
   unfold gap
   omega
 · omega
set_option maxRecDepth 100000 in
set_option maxHeartbeats 4000000 in
theorem passN (hx hy cp st en ld px py now s1 s2 : Int) (vt mv : Value) (n g B k L : Nat) (P : Pace) (t : List Rq) (x : Vi) (w : World) (hin : ∀ args w, (callFunc n args).run Tryd.prog w = .ok (.enter n args) w) (hv : visO t (s1, s2) = some x) (hok : OkVi x)
 (hnow : 0 ≤ now ∧ now ≤ 500000000) (hk : k < L) (hP : PaceC n #[] L w B P)
 (hg : At w g 135 #[.int .i64 hx, .int .i64 hy, .int .i64 cp, .int .i64 st, .int .i64 en, vt, .func (.func n) #[] #[], mv, .int .i64 ld, .int .i64 px, .int .i64 py, .int .i64 now]) (hB : B ≤ w.heap.size) (hBg : B ≤ g) (hT : Rqs B w vt t) :
 Calls Tryd.prog 82 #[.pointer (some ⟨g, 0, none⟩), .int .i64 (k : Int), .agg #[.int .i64 s1, .int .i64 s2]] w fun e w' =>
  e = .returned (.bool (P k x (now + distV (px, py) (x.px, x.py))).2) ∧
   At w' g 135 #[.int .i64 hx, .int .i64 hy, .int .i64 cp, .int .i64 st, .int .i64 en, vt, .func (.func n) #[] #[], mv, .int .i64 ld, .int .i64 x.px, .int .i64 x.py, .int .i64 (P k x (now + distV (px, py) (x.px, x.py))).1] ∧ Two g g w w' := by
 obtain ⟨D, hD⟩ : ∃ D, distV (px, py) (x.px, x.py) = D := ⟨_, rfl⟩
 have cD : ∀ W, Calls Tryd.prog 48 #[.agg #[.int .i64 px, .int .i64 py], .agg #[.int .i64 x.px, .int .i64 x.py]] W fun e w' => e = .returned (.int .i64 D) ∧ Below W.heap.size W w' := fun W => by rw [← hD]; exact Dist_any _ _ _ _ W
 have hDb : 0 ≤ D ∧ D ≤ 100000 := by rw [← hD]; exact dist_bd _ _
 obtain ⟨hD1, hD2⟩ := hDb
 obtain ⟨hn1, hn2⟩ := hnow
 have hnD1 : 0 ≤ now + D := by omega
 have hnD2 : now + D ≤ 1000000000 := by omega
 have hPY := fun W (hW : Below B w W) => hP W hW k x (now + D) hk hok hnD1 hnD2
 rw [hD]
 generalize P k x (now + D) = Y at *
 simp only [Array.append_empty] at hPY
 clear hD hP
 obtain ⟨m, hmq⟩ : ∃ m, w.heap.size = m := ⟨_, rfl⟩
 obtain ⟨w1, hw1⟩ : ∃ w1, w.alloc (.cells #[.int .i64 s1, .int .i64 s2] 61) = w1 := ⟨_, rfl⟩
 have hS : At w1 m 61 #[.int .i64 s1, .int .i64 s2] := by rw [← hw1]; exact At.new_ _ _ _ hmq.symm
 have hG : At w1 g 135 #[.int .i64 hx, .int .i64 hy, .int .i64 cp, .int .i64 st, .int .i64 en, vt, .func (.func n) #[] #[], mv, .int .i64 ld, .int .i64 px, .int .i64 py, .int .i64 now] := by rw [← hw1]; exact hg.alloc _
 have hb1 : Below w.heap.size w w1 := by rw [← hw1]; exact (Below.refl _ _).alloc (Nat.le_refl _) _
 have hT1 := hT.keep hb1 hB
 have hP1 := Lib.hid (fun W (hW : Below B w1 W) => hPY W ((hb1.mono hB).trans hW))
 have hTw : Two g g w w1 := .of_below hb1
 have hgi := hg.inside
 have hgne : g ≠ m := by omega
 have hB1 : B ≤ w1.heap.size := by have := hb1.size; omega
 have hs1 : w1.heap.size = m + 1 := by rw [← hw1]; simp [hmq]
 have hs1' := Lib.hid hs1
 have cV : ∀ W, Below w1.heap.size w1 W → Calls Tryd.prog 86 #[.pointer (some ⟨g, 0, none⟩), .agg #[.int .i64 s1, .int .i64 s2]] W fun e w' =>
  e = .returned (.agg #[.int .i64 x.px, .int .i64 x.py, .int .i64 x.we, .int .i64 x.wl, .int .i64 x.sv]) ∧ Below W.heap.size W w' := fun W hW =>
  visit_any hx hy cp st en ld px py now s1 s2 _ mv vt g B t x W hv (hG.keep hW hG.inside) (by have := hW.size; omega) (hT1.keep hW hB1)
 have hw1' := Lib.hid hw1
 have hmq' := Lib.hid hmq
 have hgm : g < m := by omega
 clear hg hT hw1 hmq hv hb1 hPY hT1 hgi hB hs1
 go_enter Tryd.func82, Tryd.ntmps82
 go_wp2_with fail
 rw [hw1'.out]
 simp only [hmq'.out]
 refine (cV w1 (Below.refl _ _)).mono ?_
 rintro e w2 ⟨rfl, hb2⟩
 have hG2 := hG.keep hb2 hG.inside
 have hTw2 := hTw.on hb2
 have hP2 := Lib.hid (fun W (hW : Below B w2 W) => hP1.out W ((hb2.mono hB1).trans hW))
 obtain ⟨gn, hgn⟩ : ∃ gn, w2.heap.size = gn := ⟨_, rfl⟩
 obtain ⟨w3, hw3⟩ : ∃ w3, w2.alloc (.cells #[.int .i64 x.px, .int .i64 x.py, .int .i64 x.we, .int .i64 x.wl, .int .i64 x.sv] 140) = w3 := ⟨_, rfl⟩
 have hG3 := hG2.alloc (.cells #[.int .i64 x.px, .int .i64 x.py, .int .i64 x.we, .int .i64 x.wl, .int .i64 x.sv] 140)
 rw [hw3] at hG3
 have hX3 : At w3 gn 140 #[.int .i64 x.px, .int .i64 x.py, .int .i64 x.we, .int .i64 x.wl, .int .i64 x.sv] := by rw [← hw3]; exact At.new_ _ _ _ hgn.symm
 have hb3 : Below w2.heap.size w2 w3 := by rw [← hw3]; exact (Below.refl _ _).alloc (Nat.le_refl _) _
 have hTw3 := hTw2.on hb3
 have hP3 := Lib.hid (fun W (hW : Below B w3 W) => hP2.out W ((hb3.mono (by have := hb2.size; omega)).trans hW))
 have hw3' := Lib.hid hw3
 have hgn' := Lib.hid hgn
 clear hw3 hb2 hb3 hG hS hG2 hP1 hP2 hTw hTw2 cV hgn
 go_upto_region 2 with fail
 simp only [hgn'.out]
 rw [hw3'.out]
 have cP := fun W (hW : Below w3.heap.size w3 W) => hP3.out W (hW.mono (by have := hG3.inside; omega))
 have g6 := hG3.cell 6
 have g9 := hG3.cell 9
 have g10 := hG3.cell 10
 have g11 := hG3.cell 11
 have x0 := hX3.cell 0
 have x1 := hX3.cell 1
 have x2 := hX3.cell 2
 have x3 := hX3.cell 3
 have x4 := hX3.cell 4
 simp at g6 g9 g10 g11 x0 x1 x2 x3 x4
 have kg6 := cell_regrown g6
 have kg9 := cell_regrown g9
 have kg10 := cell_regrown g10
 have kg11 := cell_regrown g11
 have kx0 := cell_regrown x0
 have kx1 := cell_regrown x1
 have kx2 := cell_regrown x2
 have kx3 := cell_regrown x3
 have kx4 := cell_regrown x4
 have kD := fun d os => Calls.regrown_of (cD (grow (redrawn w3 d) os))
 have kP := fun d os => Calls.regrown_of (cP (grow (redrawn w3 d) os) (below_regrown w3 d os))
 refine wp_region_quiet_below (by kernel_rfl) (by kernel_rfl) ?_
 repeat (go_big_quiet_step (first | with_reducible exact kD _ _ | with_reducible exact kP _ _))
 refine wpQuiet_nil ?_
 intro _ hw'
 obtain ⟨⟨dq, osq⟩, hw''⟩ := hw'
 subst hw''
 have hb4 := below_regrown w3 dq osq
 have hG4 := hG3.keep hb4 hG3.inside
 have hX4 := hX3.keep hb4 hX3.inside
 have hTw4 := hTw3.on hb4
 clear kg6 kg9 kg10 kg11 kx0 kx1 kx2 kx3 kx4 kD kP cD cP g6 g9 g10 g11 x0 x1 x2 x3 x4 hG3 hX3 hTw3 hb4
 generalize grow (redrawn w3 dq) osq = w4 at *
 have x0 := hX4.cell 0
 have x1 := hX4.cell 1
 have g9 := hG4.cell 9
 have g10 := hG4.cell 10
 have g11 := hG4.cell 11
 have gf := hG4.free
 simp at g9 g10 g11 x0 x1
 go_wp2
 go_ret
 exact ⟨rfl, put_trip hG4, ((hTw4.trans (.setG _ _ _ _ _)).trans (.setG _ _ _ _ _)).trans (.setG _ _ _ _ _)⟩
end Go.Proofs.YteclpblfleakhaaDoor.Feas

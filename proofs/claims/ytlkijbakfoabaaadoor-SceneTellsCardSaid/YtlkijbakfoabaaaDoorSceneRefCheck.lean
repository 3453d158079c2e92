/-
  Contract of the answer's own Check.
-/
import Derived.Test.YtlkijbakfoabaaaDoorSceneRefCars
namespace Go.Proofs.YtlkijbakfoabaaaDoor.Scene
open Go.RowKit Go.Sort Go.Proofs.YtlkijbakfoabaaaDoor.Mem
set_option linter.unusedVariables false

theorem firstBad_append (a b : List (Int × Int × Int)) : firstBad (a ++ b) = if (firstBad a).1 = 0 then firstBad b else firstBad a := by
  induction a with
  | nil => rfl
  | cons x a ih =>
    rw [List.cons_append]
    cases h : good3 x
    · rw [fb_bad h, fb_bad h, if_neg]
      unfold good3 at h
      simpa using h
    · rw [fb_good h, fb_good h, ih]
theorem fault_counts {s : Sc} (h : ¬ (fCounts s).1 = 0) : faultV s = fCounts s := by
  unfold faultV allL
  rw [firstBad_append]
  exact if_neg h
theorem fault_reqs {s : Sc} (h : (fCounts s).1 = 0) : faultV s = firstBad (tagL 1 (reqsL 0 s.reqs) ++ (tagL 2 (carriersL s) ++ tagL 3 (lotsL s))) := by
  unfold faultV allL
  rw [firstBad_append]
  exact if_pos h
theorem req_bad {k : Nat} {q : Rq} {rest : List Rq} {t : List (Int × Int × Int)} (hb : (q.chk == 0) = false) : firstBad (tagL 1 (reqsL k (q :: rest)) ++ t) = (q.chk, 1, (k : Int)) := fb_bad hb
theorem req_good {k : Nat} {q : Rq} {rest : List Rq} {t : List (Int × Int × Int)} (hb : (q.chk == 0) = true) : firstBad (tagL 1 (reqsL k (q :: rest)) ++ t) = firstBad (tagL 1 (reqsL (k + 1) rest) ++ t) := fb_good hb
theorem fault_cars {s : Sc} (h : ¬ (fCars s).1 = 0) : firstBad (tagL 2 (carriersL s) ++ tagL 3 (lotsL s)) = fCars s := by
  rw [firstBad_append]
  exact if_neg h
theorem fault_lots {s : Sc} (h : (fCars s).1 = 0) : firstBad (tagL 2 (carriersL s) ++ tagL 3 (lotsL s)) = firstBad (tagL 3 (lotsL s)) := by
  rw [firstBad_append]
  exact if_pos h
theorem lot_none {N : Int} {k : Nat} {ps : List (Int × Int)} {x : Lt} {xs : List Lt} (h : x.req < 0 ∨ N ≤ x.req) : firstBad (tagL 3 (lotsFrom N k ps (x :: xs))) = (12, 3, (k : Int)) := by
  have e : clmC N ps x.req = 12 := by unfold clmC; rw [btw_out (by omega)]; rfl
  rw [lotsFrom_cons, e]
  exact fb_bad rfl
theorem lot_twice {N : Int} {k : Nat} {ps : List (Int × Int)} {x : Lt} {xs : List Lt} (h1 : 0 ≤ x.req) (h2 : x.req < N) (h : inP x.req ps = true) : firstBad (tagL 3 (lotsFrom N k ps (x :: xs))) = (13, 3, (k : Int)) := by
  have e : clmC N ps x.req = 13 := by unfold clmC; rw [btw_in h1 (by omega), h]; rfl
  rw [lotsFrom_cons, e]
  exact fb_bad rfl
theorem lot_over {N : Int} {k : Nat} {ps : List (Int × Int)} {x : Lt} {xs : List Lt} (h1 : 0 ≤ x.req) (h2 : x.req < N) (h : inP x.req ps = false) (h3 : x.res < 0 ∨ 16777216 < x.res) : firstBad (tagL 3 (lotsFrom N k ps (x :: xs))) = (3, 3, (k : Int)) := by
  have e : clmC N ps x.req = 0 := by unfold clmC; rw [btw_in h1 (by omega), h]; rfl
  rw [lotsFrom_cons, e, btw_out h3]
  exact (fb_good rfl).trans (fb_bad rfl)
theorem lot_good {N : Int} {k : Nat} {ps : List (Int × Int)} {x : Lt} {xs : List Lt} (h1 : 0 ≤ x.req) (h2 : x.req < N) (h : inP x.req ps = false) (h3 : 0 ≤ x.res) (h4 : x.res ≤ 16777216) : firstBad (tagL 3 (lotsFrom N k ps (x :: xs))) = firstBad (tagL 3 (lotsFrom N (k + 1) (ps ++ [(x.req, (k : Int))]) xs)) := by
  have e : clmC N ps x.req = 0 := by unfold clmC; rw [btw_in h1 (by omega), h]; rfl
  rw [lotsFrom_cons, e, btw_in h3 h4]
  exact (fb_good rfl).trans (fb_good rfl)
theorem anyL_succ {l : List Lt} {m : Nat} {y : Lt} (r : Int) (h : l[m]? = some y) : (l.take (m + 1)).any (fun x => x.req == r) = ((l.take m).any (fun x => x.req == r) || y.req == r) := by
  rw [take_succ h, List.any_append]
  simp
theorem anyL_here {l : List Lt} {m k : Nat} {y : Lt} {r : Int} (h : l[m]? = some y) (hm : m < k) (hy : (y.req == r) = true) : (l.take k).any (fun x => x.req == r) = true := by
  rw [List.any_eq_true]
  exact ⟨y, by rw [List.mem_take_iff_getElem]; exact ⟨m, by have := (List.getElem?_eq_some_iff.1 h).1; omega, (List.getElem?_eq_some_iff.1 h).2⟩, hy⟩
theorem faultOf_mk (c p i : Int) : faultOf (c, p, i) = .agg #[.int .i64 c, .int .i64 p, .int .i64 i] := rfl

set_option maxRecDepth 100000 in
set_option maxHeartbeats 8000000 in
theorem refCheck_any (s : Sc) (vR vC vL vD : Value) (us : List (Value × Value)) (B : Nat) (w : World) (hBw : B ≤ w.heap.size) (h : SceneAt B w vR vC vL vD us s) (hcn : s.cars.length ≤ 1000000) (hrn : s.reqs.length ≤ 1000000) :
    Calls Tryd.prog 12 #[.agg #[vR, vC, vL, .int .i64 s.cm, .int .i64 s.rv, .int .i64 s.sch, vD]] w fun e w' => e = .returned (faultOf (faultV s)) ∧ Below w.heap.size w w' := by
  have hRV := h.reqs
  have hCV := h.cars.row
  have hus := h.cars.len
  have hLV := h.lots
  have hDV := h.draws
  obtain ⟨xR, capR, rfl, hlenR, hcapR, _⟩ := hRV
  obtain ⟨xC, capC, rfl, hlenC, hcapC, _⟩ := hCV
  obtain ⟨xL, capL, rfl, hlenL, hcapL, _⟩ := hLV
  obtain ⟨xD, capD, rfl, hlenD, hcapD⟩ := hDV
  simp only [List.length_map, hus] at hlenR hlenC hlenL h ⊢
  unfold maxLen at hcapR hcapC hcapL hcapD
  have hB : Below w.heap.size w ((w.alloc (.cells #[.slice xR s.reqs.length capR, .slice xC s.cars.length capC, .slice xL s.lots.length capL, .int .i64 s.cm, .int .i64 s.rv, .int .i64 s.sch, .slice xD s.draws capD] 33)).alloc (.cells #[.int .i64 0, .int .i64 0, .int .i64 0] 43)) := ((Below.refl _ _).alloc (Nat.le_refl _) _).alloc (by simp) _
  have hS := Lib.hid (fun W (hb : Below w.heap.size w W) => h.keep hb hBw)
  have hP : At ((w.alloc (.cells #[.slice xR s.reqs.length capR, .slice xC s.cars.length capC, .slice xL s.lots.length capL, .int .i64 s.cm, .int .i64 s.rv, .int .i64 s.sch, .slice xD s.draws capD] 33)).alloc (.cells #[.int .i64 0, .int .i64 0, .int .i64 0] 43)) w.heap.size 33 #[.slice xR s.reqs.length capR, .slice xC s.cars.length capC, .slice xL s.lots.length capL, .int .i64 s.cm, .int .i64 s.rv, .int .i64 s.sch, .slice xD s.draws capD] := (At.new _ _ _).alloc _
  have hR : At ((w.alloc (.cells #[.slice xR s.reqs.length capR, .slice xC s.cars.length capC, .slice xL s.lots.length capL, .int .i64 s.cm, .int .i64 s.rv, .int .i64 s.sch, .slice xD s.draws capD] 33)).alloc (.cells #[.int .i64 0, .int .i64 0, .int .i64 0] 43)) (w.heap.size + 1) 43 #[.int .i64 0, .int .i64 0, .int .i64 0] := At.new_ _ _ _ (by simp)
  have hz : w.heap.size + 2 ≤ (((w.alloc (.cells #[.slice xR s.reqs.length capR, .slice xC s.cars.length capC, .slice xL s.lots.length capL, .int .i64 s.cm, .int .i64 s.rv, .int .i64 s.sch, .slice xD s.draws capD] 33)).alloc (.cells #[.int .i64 0, .int .i64 0, .int .i64 0] 43))).heap.size := by simp
  have hCnt := Lib.hid (fun W (hb : Below w.heap.size w W) => refCounts_any s _ _ _ _ us B W (Nat.le_trans hBw hb.size) (h.keep hb hBw))
  have hCar := Lib.hid (fun W (hb : Below w.heap.size w W) => refCarriers_any s _ _ _ _ us B W (Nat.le_trans hBw hb.size) (h.keep hb hBw) hcn hrn)
  obtain ⟨cc, cp, ci, hfc⟩ : ∃ c p i, fCounts s = (c, p, i) := ⟨_, _, _, rfl⟩
  obtain ⟨kc, kp, ki, hfk⟩ : ∃ c p i, fCars s = (c, p, i) := ⟨_, _, _, rfl⟩
  rw [hfc, faultOf_mk] at hCnt
  rw [hfk, faultOf_mk] at hCar
  have hfc' := Lib.hid hfc
  have hfk' := Lib.hid hfk
  clear h hus hfc hfk
  go_enter Tryd.func12, Tryd.ntmps12
  go_upto_region 1 with fail
  generalize ((w.alloc (.cells #[.slice xR s.reqs.length capR, .slice xC s.cars.length capC, .slice xL s.lots.length capL, .int .i64 s.cm, .int .i64 s.rv, .int .i64 s.sch, .slice xD s.draws capD] 33)).alloc (.cells #[.int .i64 0, .int .i64 0, .int .i64 0] 43)) = w1 at *
  have p0 := hP.cell 0
  have p1 := hP.cell 1
  have p2 := hP.cell 2
  have p3 := hP.cell 3
  have p4 := hP.cell 4
  have p5 := hP.cell 5
  have p6 := hP.cell 6
  simp at p0 p1 p2 p3 p4 p5 p6
  go_wp2_with fail
  refine (hCnt.out _ hB).mono ?_
  rintro e w2 ⟨rfl, hb2⟩
  obtain ⟨nT, hnT⟩ : ∃ nT, w2.heap.size = nT := ⟨_, rfl⟩
  replace hP := (hP.keep hb2 hP.inside).alloc (.cells #[.int .i64 cc, .int .i64 cp, .int .i64 ci] 43)
  replace hR := (hR.keep hb2 hR.inside).alloc (.cells #[.int .i64 cc, .int .i64 cp, .int .i64 ci] 43)
  replace hB := hB.trans (hb2.mono hB.size)
  replace hB := hB.alloc hB.size (.cells #[.int .i64 cc, .int .i64 cp, .int .i64 ci] 43)
  have hT := At.new_ w2 43 #[.int .i64 cc, .int .i64 cp, .int .i64 ci] hnT.symm
  have hz2 : w.heap.size + 2 ≤ (w2.alloc (.cells #[.int .i64 cc, .int .i64 cp, .int .i64 ci] 43)).heap.size := by have := hb2.size; simp; omega
  have hnz : w.heap.size + 2 ≤ nT := by have := hb2.size; omega
  clear hb2 hz p0 p1 p2 p3 p4 p5 p6
  go_upto_region 2 with fail
  generalize w2.alloc (.cells #[.int .i64 cc, .int .i64 cp, .int .i64 ci] 43) = w3 at *
  clear hnT
  have t0 := hT.cell 0
  have t1 := hT.cell 1
  have t2 := hT.cell 2
  simp at t0 t1 t2
  cases hc0 : (cc == 0)
  · have hc2 : (cc != 0) = true := by rw [bne, hc0]; rfl
    have hE : Hid (faultV s = (cc, cp, ci)) := Lib.hid (by rw [← hfc'.out]; exact fault_counts (by rw [hfc'.out]; exact beq_eq_false_iff_ne.1 hc0))
    have q0 := hR.free 0
    have q1 := hR.free 1
    have q2 := hR.free 2
    have r0 := hR.cell 0
    have r1 := hR.cell 1
    have r2 := hR.cell 2
    simp at r0 r1 r2
    go_wp2
    exact bodyPost_ret (res_fault rfl rfl (put3 hR)) rfl ⟨ret_fault hE.out, ((hB.setCell (by simp) _).setCell (by simp) _).setCell (by simp) _⟩
  have hc2 : (cc != 0) = false := by rw [bne, hc0]; rfl
  have hF := Lib.hid (fault_reqs (by rw [hfc'.out]; exact beq_iff_eq.1 hc0))
  go_upto_region 5 with fail
  clear t0 t1 t2 hc0 hc2 hCnt hfc'
  go_loopw [4] (fun i wr => ∃ (k : Nat) (rest : List Rq), i = .int .i64 k ∧ s.reqs.drop k = rest ∧ faultV s = firstBad (tagL 1 (reqsL k rest) ++ (tagL 2 (carriersL s) ++ tagL 3 (lotsL s))) ∧ Below w.heap.size w wr ∧ At wr w.heap.size 33 #[.slice xR s.reqs.length capR, .slice xC s.cars.length capC, .slice xL s.lots.length capL, .int .i64 s.cm, .int .i64 s.rv, .int .i64 s.sch, .slice xD s.draws capD] ∧ At wr (w.heap.size + 1) 43 #[.int .i64 0, .int .i64 0, .int .i64 0] ∧ w.heap.size + 2 ≤ wr.heap.size ∧ At wr nT 43 #[.int .i64 cc, .int .i64 cp, .int .i64 ci]) (fun i _ => s.reqs.length - (intOf i).toNat)
  case atStart => exact ⟨0, s.reqs, rfl, rfl, hF.out, hB, hP, hR, hz2, hT⟩
  case round =>
    clear hB hP hR hz2 hT hF
    obtain ⟨k, rest, rfl, hdr, hF, hB, hP, hR, hz, hT⟩ := hrel
    cases rest with
    | cons q rest =>
      obtain ⟨hlt, hq, hd2⟩ := drop_cons hdr
      obtain ⟨g, o, rfl, hgB, hc⟩ := RowB.row (hS.out _ hB).reqs (j := k) (r := rqV q) (by rw [List.getElem?_map, hq]; rfl)
      have c0 := hc 0 _ rfl
      have c1 := hc 1 _ rfl
      have c2 := hc 2 _ rfl
      have c3 := hc 3 _ rfl
      have c4 := hc 4 _ rfl
      have c5 := hc 5 _ rfl
      have c6 := hc 6 _ rfl
      have c7 := hc 7 _ rfl
      have c8 := hc 8 _ rfl
      have c9 := hc 9 _ rfl
      clear hc
      simp at c0
      have p0 := hP.cell 0
      simp at p0
      have hd3 := Lib.hid hd2
      have hF' := Lib.hid hF
      clear hdr hd2 hq hF
      go_wp2_with fail
      refine (refReqCheck q _).mono ?_
      rintro e w4 ⟨rfl, hb4⟩
      replace hP := hP.keep hb4 hP.inside
      replace hR := hR.keep hb4 hR.inside
      replace hT := hT.keep hb4 hT.inside
      replace hB := hB.trans (hb4.mono hB.size)
      have hz4 : w.heap.size + 2 ≤ w4.heap.size := Nat.le_trans hz hb4.size
      clear hb4 hz p0 c0 c1 c2 c3 c4 c5 c6 c7 c8 c9
      cases hg : (q.chk == 0)
      · have hg2 : (q.chk != 0) = true := by rw [bne, hg]; rfl
        have hE := Lib.hid (hF'.out.trans (req_bad hg))
        go_wp2_with fail
        refine (refFault_any _ _ _ _).mono ?_
        rintro e wf ⟨rfl, hbf⟩
        have hRf := hR.keep hbf hR.inside
        have hBf := hB.trans (hbf.mono hB.size)
        have r0 := hRf.cell 0
        have r1 := hRf.cell 1
        have r2 := hRf.cell 2
        have q0 := hRf.free 0
        have q1 := hRf.free 1
        have q2 := hRf.free 2
        simp at r0 r1 r2
        clear hR hB hbf
        go_wp2
        exact bodyPost_ret (res_fault rfl rfl (put3 hRf)) rfl ⟨ret_fault (hE.out), ((hBf.setCell (by simp) _).setCell (by simp) _).setCell (by simp) _⟩

      · have hg2 : (q.chk != 0) = false := by rw [bne, hg]; rfl
        have hE := Lib.hid (hF'.out.trans (req_good hg))
        go_wp2
        go_roundw
        case rel => exact ⟨k + 1, rest, by go_num, hd3.out, hE.out, hB, hP, hR, hz4, hT⟩
        case measure => simp [intOf]; omega
    | nil =>
      have hk := drop_nil hdr
      have hk2 : ¬ (k < s.reqs.length) := by omega
      have hF' : Hid (faultV s = firstBad (tagL 2 (carriersL s) ++ tagL 3 (lotsL s))) := Lib.hid hF
      clear hdr hF hk
      have p0 := hP.cell 0
      have p1 := hP.cell 1
      have p2 := hP.cell 2
      have p3 := hP.cell 3
      have p4 := hP.cell 4
      have p5 := hP.cell 5
      have p6 := hP.cell 6
      simp at p0 p1 p2 p3 p4 p5 p6

      go_wp2_with fail
      refine (hCar.out _ hB).mono ?_
      rintro e w5 ⟨rfl, hb5⟩
      replace hP := hP.keep hb5 hP.inside
      replace hR := hR.keep hb5 hR.inside
      replace hT := hT.keep hb5 hT.inside
      replace hB := hB.trans (hb5.mono hB.size)
      have hz5 : w.heap.size + 2 ≤ w5.heap.size := Nat.le_trans hz hb5.size
      have t0 := hT.cell 0
      have t1 := hT.cell 1
      have t2 := hT.cell 2
      have f0 := hT.free 0
      have f1 := hT.free 1
      have f2 := hT.free 2
      simp at t0 t1 t2
      clear hb5 hz p0 p1 p2 p3 p4 p5 p6
      have hT2 : At (((w5.setCell ⟨nT, 0, none⟩ (.int .i64 kc)).setCell ⟨nT, 1, none⟩ (.int .i64 kp)).setCell ⟨nT, 2, none⟩ (.int .i64 ki)) nT 43 #[.int .i64 kc, .int .i64 kp, .int .i64 ki] := put3 hT
      have hP2 := ((hP.far (show w.heap.size ≠ nT by omega) 0 (.int .i64 kc)).far (show w.heap.size ≠ nT by omega) 1 (.int .i64 kp)).far (show w.heap.size ≠ nT by omega) 2 (.int .i64 ki)
      have hR2 := ((hR.far (show w.heap.size + 1 ≠ nT by omega) 0 (.int .i64 kc)).far (show w.heap.size + 1 ≠ nT by omega) 1 (.int .i64 kp)).far (show w.heap.size + 1 ≠ nT by omega) 2 (.int .i64 ki)
      have hB2 : Below w.heap.size w (((w5.setCell ⟨nT, 0, none⟩ (.int .i64 kc)).setCell ⟨nT, 1, none⟩ (.int .i64 kp)).setCell ⟨nT, 2, none⟩ (.int .i64 ki)) := ((hB.setCell (by show w.heap.size ≤ nT; omega) _).setCell (by show w.heap.size ≤ nT; omega) _).setCell (by show w.heap.size ≤ nT; omega) _
      have hz6 : w.heap.size + 2 ≤ (((w5.setCell ⟨nT, 0, none⟩ (.int .i64 kc)).setCell ⟨nT, 1, none⟩ (.int .i64 kp)).setCell ⟨nT, 2, none⟩ (.int .i64 ki)).heap.size := by simpa using hz5
      go_upto_region 11 with fail
      clear hT hP hR hB hz5 t0 t1 t2 f0 f1 f2
      generalize (((w5.setCell ⟨nT, 0, none⟩ (.int .i64 kc)).setCell ⟨nT, 1, none⟩ (.int .i64 kp)).setCell ⟨nT, 2, none⟩ (.int .i64 ki)) = w6 at *
      have hT := hT2
      have hP := hP2
      have hR := hR2
      have hB := hB2
      clear hT2 hP2 hR2 hB2
      have t0 := hT.cell 0
      have t1 := hT.cell 1
      have t2 := hT.cell 2
      simp at t0 t1 t2
      cases hc0 : (kc == 0)
      · have hc2 : (kc != 0) = true := by rw [bne, hc0]; rfl
        have hE : Hid (faultV s = (kc, kp, ki)) := Lib.hid (by rw [hF'.out, ← hfk'.out]; exact fault_cars (by rw [hfk'.out]; exact beq_eq_false_iff_ne.1 hc0))
        have q0 := hR.free 0
        have q1 := hR.free 1
        have q2 := hR.free 2
        have r0 := hR.cell 0
        have r1 := hR.cell 1
        have r2 := hR.cell 2
        simp at r0 r1 r2
        go_wp2
        exact bodyPost_ret (res_fault rfl rfl (put3 hR)) rfl ⟨ret_fault hE.out, ((hB.setCell (by simp) _).setCell (by simp) _).setCell (by simp) _⟩
      have hc2 : (kc != 0) = false := by rw [bne, hc0]; rfl
      have hF2 := Lib.hid (hF'.out.trans (fault_lots (by rw [hfk'.out]; exact beq_iff_eq.1 hc0)))
      go_upto_region 14 with fail
      clear t0 t1 t2 hc0 hc2 hCar hfk' hF' hT
      go_loopw [6] (fun i wr => ∃ (k : Nat) (rest : List Lt) (ps : List (Int × Int)), i = .int .i64 k ∧ s.lots.drop k = rest ∧ k ≤ s.lots.length ∧ faultV s = firstBad (tagL 3 (lotsFrom s.reqs.length k ps rest)) ∧ (∀ r, inP r ps = (s.lots.take k).any (fun x => x.req == r)) ∧ Below w.heap.size w wr ∧ At wr w.heap.size 33 #[.slice xR s.reqs.length capR, .slice xC s.cars.length capC, .slice xL s.lots.length capL, .int .i64 s.cm, .int .i64 s.rv, .int .i64 s.sch, .slice xD s.draws capD] ∧ At wr (w.heap.size + 1) 43 #[.int .i64 0, .int .i64 0, .int .i64 0] ∧ w.heap.size + 2 ≤ wr.heap.size) (fun i _ => s.lots.length - (intOf i).toNat)
      case atStart => exact ⟨0, s.lots, [], rfl, rfl, Nat.zero_le _, hF2.out, (fun r => by simp [inP]), hB, hP, hR, hz6⟩
      case round =>
        clear hB hP hR hz6 hF2 hk2
        obtain ⟨k, rest, ps, rfl, hdr, hkl, hF, hps, hB, hP, hR, hz⟩ := hrel
        cases rest with
        | nil =>
          have hk := drop_nil hdr
          have hk2 : ¬ (k < s.lots.length) := by omega
          have hE := Lib.hid (hF.trans (show _ = (0, 0, 0) from rfl))
          have p2 := hP.cell 2
          simp at p2
          clear hdr hF hps hk
          have q0 := hR.free 0
          have q1 := hR.free 1
          have q2 := hR.free 2
          have r0 := hR.cell 0
          have r1 := hR.cell 1
          have r2 := hR.cell 2
          simp at r0 r1 r2
          go_wp2
          exact bodyPost_ret (res_fault rfl rfl (put3 hR)) rfl ⟨ret_fault (hE.out), ((hB.setCell (by simp) _).setCell (by simp) _).setCell (by simp) _⟩

        | cons q rest =>
          obtain ⟨hlt, hq, hd2⟩ := drop_cons hdr
          obtain ⟨g, o, rfl, hgB, hc⟩ := RowB.row (hS.out _ hB).lots (j := k) (r := ltV q) (by rw [List.getElem?_map, hq]; rfl)
          have c0 := hc 0 _ rfl
          have c1 := hc 1 _ rfl
          clear hc
          simp at c0
          have p0 := hP.cell 0
          have p2 := hP.cell 2
          simp at p0 p2
          have hd3 := Lib.hid hd2
          have hq' := Lib.hid hq
          have hF' := Lib.hid hF
          have hps' := Lib.hid hps
          clear hdr hd2 hq hF hps
          obtain ⟨nX, hnX⟩ : ∃ nX, wr.heap.size = nX := ⟨_, rfl⟩
          have hX := At.new_ wr 59 #[.int .i64 q.req, .int .i64 q.res] hnX.symm
          have hz2 : w.heap.size + 2 ≤ (wr.alloc (.cells #[.int .i64 q.req, .int .i64 q.res] 59)).heap.size := by simp; omega
          replace hP := hP.alloc (.cells #[.int .i64 q.req, .int .i64 q.res] 59)
          replace hR := hR.alloc (.cells #[.int .i64 q.req, .int .i64 q.res] 59)
          replace hB := hB.alloc hB.size (.cells #[.int .i64 q.req, .int .i64 q.res] 59)
          go_upto_region 17 with fail
          generalize wr.alloc (.cells #[.int .i64 q.req, .int .i64 q.res] 59) = w7 at *
          clear hnX c0 c1 p0 p2 hz
          have p0 := hP.cell 0
          have p2 := hP.cell 2
          have x0 := hX.cell 0
          have x1 := hX.cell 1
          simp at p0 p2 x0 x1
          by_cases hn : q.req < 0
          · have hE := Lib.hid (hF'.out.trans (lot_none (.inl hn)))
            go_wp2_with fail
            refine (refFault_any _ _ _ _).mono ?_
            rintro e wf ⟨rfl, hbf⟩
            have hRf := hR.keep hbf hR.inside
            have hBf := hB.trans (hbf.mono hB.size)
            have r0 := hRf.cell 0
            have r1 := hRf.cell 1
            have r2 := hRf.cell 2
            have q0 := hRf.free 0
            have q1 := hRf.free 1
            have q2 := hRf.free 2
            simp at r0 r1 r2
            clear hR hB hbf
            go_wp2
            exact bodyPost_ret (res_fault rfl rfl (put3 hRf)) rfl ⟨ret_fault (hE.out), ((hBf.setCell (by simp) _).setCell (by simp) _).setCell (by simp) _⟩

          by_cases hN : (s.reqs.length : Int) ≤ q.req
          · have hE := Lib.hid (hF'.out.trans (lot_none (.inr hN)))
            go_wp2_with fail
            refine (refFault_any _ _ _ _).mono ?_
            rintro e wf ⟨rfl, hbf⟩
            have hRf := hR.keep hbf hR.inside
            have hBf := hB.trans (hbf.mono hB.size)
            have r0 := hRf.cell 0
            have r1 := hRf.cell 1
            have r2 := hRf.cell 2
            have q0 := hRf.free 0
            have q1 := hRf.free 1
            have q2 := hRf.free 2
            simp at r0 r1 r2
            clear hR hB hbf
            go_wp2
            exact bodyPost_ret (res_fault rfl rfl (put3 hRf)) rfl ⟨ret_fault (hE.out), ((hBf.setCell (by simp) _).setCell (by simp) _).setCell (by simp) _⟩

          go_upto_region 20 with fail
          clear p0 p2 x0 x1
          go_loopw [8] (fun i wr => ∃ (m : Nat), i = .int .i64 m ∧ m ≤ k ∧ (s.lots.take m).any (fun x => x.req == q.req) = false ∧ Below w.heap.size w wr ∧ At wr w.heap.size 33 #[.slice xR s.reqs.length capR, .slice xC s.cars.length capC, .slice (some ⟨g, o, none⟩) s.lots.length capL, .int .i64 s.cm, .int .i64 s.rv, .int .i64 s.sch, .slice xD s.draws capD] ∧ At wr (w.heap.size + 1) 43 #[.int .i64 0, .int .i64 0, .int .i64 0] ∧ w.heap.size + 2 ≤ wr.heap.size ∧ At wr nX 59 #[.int .i64 q.req, .int .i64 q.res]) (fun i _ => k - (intOf i).toNat)
          case atStart => exact ⟨0, rfl, Nat.zero_le _, rfl, hB, hP, hR, hz2, hX⟩
          case round =>
            clear hB hP hR hX hz2
            obtain ⟨m, rfl, hmk, hno, hB, hP, hR, hz2, hX⟩ := hrel
            have hno' := Lib.hid hno
            clear hno
            by_cases hml : m < k
            · have hy : s.lots[m]? = some (s.lots[m]'(by omega)) := List.getElem?_eq_getElem (by omega)
              generalize s.lots[m]'(by omega) = y at hy
              obtain ⟨g1, o1, e1, _, hc1⟩ := RowB.row (hS.out _ hB).lots (j := m) (r := ltV y) (by rw [List.getElem?_map, hy]; rfl)
              cases e1
              have d1 := hc1 0 _ rfl
              have p2 := hP.cell 2
              have x0 := hX.cell 0
              simp at d1 p2 x0
              have hy' := Lib.hid hy
              clear hc1 hy
              cases hyr : (y.req == q.req)
              · have hsu := Lib.hid (anyL_succ q.req hy'.out)
                go_upto_region 22 with fail
                go_quiet (fail)
                go_wp2
                go_roundw
                case rel => exact ⟨m + 1, by go_num, hml, by rw [hsu.out, hno'.out, hyr]; rfl, below_drewN hB nq, hP.drewN nq, hR.drewN nq, hz2, hX.drewN nq⟩
                case measure => simp [intOf]; omega
              · have hE := Lib.hid (hF'.out.trans (lot_twice (by omega) (by omega) (by rw [hps'.out]; exact anyL_here hy'.out hml hyr)))
                go_upto_region 22 with fail
                go_quiet (fail)
                replace hR := hR.drewN nq
                replace hB := below_drewN hB nq
                generalize wr.drewN nq = wq at *
                go_wp2_with fail
                refine (refFault_any _ _ _ _).mono ?_
                rintro e wf ⟨rfl, hbf⟩
                have hRf := hR.keep hbf hR.inside
                have hBf := hB.trans (hbf.mono hB.size)
                have r0 := hRf.cell 0
                have r1 := hRf.cell 1
                have r2 := hRf.cell 2
                have q0 := hRf.free 0
                have q1 := hRf.free 1
                have q2 := hRf.free 2
                simp at r0 r1 r2
                clear hR hB hbf
                go_wp2
                exact bodyPost_ret (res_fault rfl rfl (put3 hRf)) rfl ⟨ret_fault (hE.out), ((hBf.setCell (by simp) _).setCell (by simp) _).setCell (by simp) _⟩

            · obtain rfl : m = k := by omega
              have hin : inP q.req ps = false := by rw [hps'.out]; exact hno'.out
              have x1 := hX.cell 1
              simp at x1
              by_cases v1 : q.res < 0
              · have hE := Lib.hid (hF'.out.trans (lot_over (by omega) (by omega) hin (.inl v1)))
                clear hin
                go_wp2_with fail
                refine (refFault_any _ _ _ _).mono ?_
                rintro e wf ⟨rfl, hbf⟩
                have hRf := hR.keep hbf hR.inside
                have hBf := hB.trans (hbf.mono hB.size)
                have r0 := hRf.cell 0
                have r1 := hRf.cell 1
                have r2 := hRf.cell 2
                have q0 := hRf.free 0
                have q1 := hRf.free 1
                have q2 := hRf.free 2
                simp at r0 r1 r2
                clear hR hB hbf
                go_wp2
                exact bodyPost_ret (res_fault rfl rfl (put3 hRf)) rfl ⟨ret_fault (hE.out), ((hBf.setCell (by simp) _).setCell (by simp) _).setCell (by simp) _⟩

              by_cases v2 : 16777216 < q.res
              · have hE := Lib.hid (hF'.out.trans (lot_over (by omega) (by omega) hin (.inr v2)))
                clear hin
                go_wp2_with fail
                refine (refFault_any _ _ _ _).mono ?_
                rintro e wf ⟨rfl, hbf⟩
                have hRf := hR.keep hbf hR.inside
                have hBf := hB.trans (hbf.mono hB.size)
                have r0 := hRf.cell 0
                have r1 := hRf.cell 1
                have r2 := hRf.cell 2
                have q0 := hRf.free 0
                have q1 := hRf.free 1
                have q2 := hRf.free 2
                simp at r0 r1 r2
                clear hR hB hbf
                go_wp2
                exact bodyPost_ret (res_fault rfl rfl (put3 hRf)) rfl ⟨ret_fault (hE.out), ((hBf.setCell (by simp) _).setCell (by simp) _).setCell (by simp) _⟩

              have hE := Lib.hid (hF'.out.trans (lot_good (by omega) (by omega) hin (by omega) (by omega)))
              clear hin
              go_wp2
              go_roundw
              case rel => exact ⟨m + 1, rest, ps ++ [(q.req, (m : Int))], by go_num, hd3.out, hlt, hE.out, (fun r => by rw [inP_snoc, hps'.out, anyL_succ r hq'.out]), hB, hP, hR, hz2⟩
              case measure => simp [intOf]; omega

end Go.Proofs.YtlkijbakfoabaaaDoor.Scene

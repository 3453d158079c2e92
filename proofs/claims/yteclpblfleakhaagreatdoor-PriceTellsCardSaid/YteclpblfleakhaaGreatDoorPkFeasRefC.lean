import Derived.Test.YteclpblfleakhaaGreatDoorPkFeasRefS
import Derived.Test.YteclpblfleakhaaGreatDoorPkOrderChkRef
import Derived.Test.YteclpblfleakhaaGreatDoorPkFeasLessMath

namespace Go.Proofs.YteclpblfleakhaaGreatDoor.Feas
open Go.RowKit Go.Sort Go.Proofs.YteclpblfleakhaaGreatDoor.Mem Go.Proofs.YteclpblfleakhaaGreatDoor.Route Go.Proofs.YteclpblfleakhaaGreatDoor.When Go.Proofs.YteclpblfleakhaaGreatDoor.Load Go.Proofs.YteclpblfleakhaaGreatDoor.Place
set_option linter.unusedVariables false
theorem fault_look {v : Vh} {l : List (Int × Int)} {t : List Rq} {f : Int × Int × Int} (h : lookV v l t earlyP = f) (h0 : f.1 ≠ 0) : faultV v l t = f := by
 unfold faultV
 rw [h, if_neg h0]
theorem fault_v {v : Vh} {l : List (Int × Int)} {t : List Rq} (h : v.chk ≠ 0) : faultV v l t = (2, 0, 0) := fault_look (by unfold lookV; rw [if_pos h]) (by decide)
theorem fault_q {v : Vh} {l : List (Int × Int)} {t : List Rq} {k : Nat} {q : Rq} (hv : v.chk = 0) (hall : ∀ (j : Nat) (r : Rq), j < k → t[j]? = some r → r.chk = 0) (hq : t[k]? = some q) (h : q.chk ≠ 0) : faultV v l t = (2, 1, (k : Int)) := by
 obtain ⟨hk, e⟩ := List.getElem?_eq_some_iff.1 hq
 have hd : t = t.take k ++ q :: t.drop (k + 1) := by rw [← e, ← List.drop_eq_getElem_cons hk, List.take_append_drop]
 have hl : (t.take k).length = k := by rw [List.length_take]; omega
 have hb : badK t = (k : Int) := by
  have := fstBad_at h (pre := t.take k) (rest := t.drop (k + 1)) (k := 0) (fun x hx => by
   obtain ⟨j, hj⟩ := List.mem_iff_getElem?.1 hx
   have hjk : j < k := by have := (List.getElem?_eq_some_iff.1 hj).1; omega
   rw [List.getElem?_take_of_lt hjk] at hj
   exact hall j x hjk hj)
  rw [← hd, hl, Nat.zero_add] at this
  exact this
 refine fault_look ?_ (by show (2 : Int) ≠ 0; decide)
 unfold lookV
 rw [if_neg (by omega), if_pos (by omega), hb]
def WalkTo (v : Vh) (t : List Rq) (l : List (Int × Int)) (k : Nat) : Prop := Std t (l.take k) ∧ walkV v t earlyP [] (sp0 v) l = walkV v t earlyP (l.take k) (leaveV v t (l.take k)) (l.drop k)
theorem WalkTo.start (v : Vh) (t : List Rq) (l : List (Int × Int)) : WalkTo v t l 0 := ⟨Std.nil t, rfl⟩
theorem WalkTo.next {v : Vh} {t : List Rq} {l : List (Int × Int)} {k : Nat} {s : Int × Int} (h : WalkTo v t l k) (hs : l[k]? = some s) (h0 : srvV v t earlyP (l.take k) (leaveV v t (l.take k)) s = 0) : WalkTo v t l (k + 1) := by
 obtain ⟨h1, h2⟩ := h
 obtain ⟨hk, e⟩ := List.getElem?_eq_some_iff.1 hs
 have ht := Route.take_get hs
 refine ⟨by rw [ht]; exact h1.snoc (srv_bits.1 h0).2.1, ?_⟩
 rw [h2, List.drop_eq_getElem_cons hk, e, walkV_go h0, ht, leave_snoc, goE_go]
theorem WalkTo.stop {v : Vh} {t : List Rq} {l : List (Int × Int)} {k : Nat} {s : Int × Int} (h : WalkTo v t l k) (hv : v.chk = 0) (ht : ∀ q ∈ t, q.chk = 0) (hs : l[k]? = some s) (h0 : srvV v t earlyP (l.take k) (leaveV v t (l.take k)) s ≠ 0) :
 faultV v l t = (srvV v t earlyP (l.take k) (leaveV v t (l.take k)) s, 2, (k : Int)) := by
 obtain ⟨hk, e⟩ := List.getElem?_eq_some_iff.1 hs
 have hw : walkV v t earlyP [] (sp0 v) l = (srvV v t earlyP (l.take k) (leaveV v t (l.take k)) s, k, leaveV v t (l.take k)) := by
  rw [h.2, List.drop_eq_getElem_cons hk, e, walkV_stop h0, List.length_take, Nat.min_eq_left (Nat.le_of_lt hk)]
 have hb : badK t < 0 := badK_ok.2 ht
 refine fault_look ?_ h0
 unfold lookV
 rw [if_neg (by omega), if_neg (by omega), hw]
 dsimp only
 rw [if_pos h0]
theorem WalkTo.end {v : Vh} {t : List Rq} {l : List (Int × Int)} (h : WalkTo v t l l.length) (hv : v.chk = 0) (ht : ∀ q ∈ t, q.chk = 0) :
 Std t l ∧ lookV v l t earlyP = (homeE v t l (leaveV v t l), 3, (l.length : Int)) := by
 obtain ⟨h1, h2⟩ := h
 rw [List.take_length] at h1
 rw [List.take_length, List.drop_length] at h2
 have hb : badK t < 0 := badK_ok.2 ht
 refine ⟨h1, ?_⟩
 unfold lookV
 rw [if_neg (by omega), if_neg (by omega), h2, walkV]
 rfl
theorem end_board {v : Vh} {t : List Rq} {l : List (Int × Int)} (h : lookV v l t earlyP = (homeE v t l (leaveV v t l), 3, (l.length : Int))) (h1 : 0 < acc t l) : faultV v l t = (8, 3, (l.length : Int)) := by
 have : homeE v t l (leaveV v t l) = 8 := by unfold homeE; rw [if_pos h1]
 rw [this] at h
 exact fault_look h (by show (8 : Int) ≠ 0; decide)
theorem end_late {v : Vh} {t : List Rq} {l : List (Int × Int)} (h : lookV v l t earlyP = (homeE v t l (leaveV v t l), 3, (l.length : Int))) (h1 : ¬ 0 < acc t l) (h2 : v.en < arV (leaveV v t l) (homeV v)) : faultV v l t = (9, 3, (l.length : Int)) := by
 have : homeE v t l (leaveV v t l) = 9 := by unfold homeE; rw [if_neg h1, if_pos h2]
 rw [this] at h
 exact fault_look h (by show (9 : Int) ≠ 0; decide)
theorem end_ok {v : Vh} {t : List Rq} {l : List (Int × Int)} (h : lookV v l t earlyP = (homeE v t l (leaveV v t l), 3, (l.length : Int))) (h1 : ¬ 0 < acc t l) (h2 : ¬ v.en < arV (leaveV v t l) (homeV v)) : faultV v l t = (0, 0, 0) := by
 have : homeE v t l (leaveV v t l) = 0 := by unfold homeE; rw [if_neg h1, if_neg h2]
 rw [this] at h
 unfold faultV
 rw [h, if_pos rfl]
theorem refReq (q : Rq) (w : World) : Calls Tryz.prog 69 #[.agg #[.int .i64 q.fx, .int .i64 q.fy, .int .i64 q.tx, .int .i64 q.ty, .int .i64 q.pe, .int .i64 q.pl, .int .i64 q.de, .int .i64 q.dl, .int .i64 q.ld, .int .i64 q.sv]] w
 fun e w' => e = .returned (.int .i64 q.chk) ∧ Below w.heap.size w w' := Order.refCheck_any _ _ _ _ _ _ _ _ _ _ w
theorem refVeh (v : Vh) (w : World) : Calls Tryz.prog 68 #[.agg #[.int .i64 v.hx, .int .i64 v.hy, .int .i64 v.cp, .int .i64 v.st, .int .i64 v.en]] w
 fun e w' => e = .returned (.int .i64 v.chk) ∧ Below w.heap.size w w' := Order.refVehicle_any _ _ _ _ _ w
theorem res_fl3 {fn : Func} {p : Tmp} (h : fn.results = #[.cell p 126]) {tmps : Array Value} {w : World} {g : Nat} {x0 x1 x2 : Value} (hp : tmps.getD p undef = .pointer (some ⟨g, 0, none⟩))
 (hA : At w g 126 #[x0, x1, x2]) : (results fn tmps).run Tryz.prog w = .ok (.agg #[x0, x1, x2]) w := by
 have hp' : tmps[p]?.getD undef = .pointer (some ⟨g, 0, none⟩) := by simpa using hp
 have c0 := hA.cell 0
 have c1 := hA.cell 1
 have c2 := hA.cell 2
 simp at c0 c1 c2
 simp only [results, h]
 go_simp
theorem ret_fl3 {f : Int × Int × Int} {a b c : Int} (h : f = (a, b, c)) : Ending.returned (.agg #[.int .i64 a, .int .i64 b, .int .i64 c]) = .returned (.agg #[.int .i64 f.1, .int .i64 f.2.1, .int .i64 f.2.2]) := by subst h; rfl
set_option maxRecDepth 100000 in
set_option maxHeartbeats 4000000 in
theorem rCheck_any (v : Vh) (vl vt : Value) (l : List (Int × Int)) (t : List Rq) (hl : l.length ≤ 100) (w : World) (hL : Row w.heap.size w vl l) (hT : Rqs w.heap.size w vt t) :
 Calls Tryz.prog 48 #[.agg #[.int .i64 v.hx, .int .i64 v.hy, .int .i64 v.cp, .int .i64 v.st, .int .i64 v.en], vl, vt] w fun e w' => e = .returned (.agg #[.int .i64 (faultV v l t).1, .int .i64 (faultV v l t).2.1, .int .i64 (faultV v l t).2.2]) ∧ Below w.heap.size w w' := by
 obtain ⟨xt, Nt, capt, rfl, hNt, htc1, htc2, ht0⟩ := hT.opened
 obtain ⟨xl, N, capl, rfl, hN', h0', hlc1, hlc2⟩ := hL.opened
 obtain ⟨q, hq⟩ : ∃ q, w.heap.size = q := ⟨_, rfl⟩
 have hlN : N ≤ 100 := by rw [← hN'.out]; exact hl
 have hNt' := Lib.hid hNt
 rw [hq] at hL hT ⊢
 have hL' := Lib.hid hL
 have hT' := Lib.hid hT
 have hq' := Lib.hid hq
 unfold maxLen at htc2 hlc2
 obtain ⟨w1, hw1⟩ : ∃ w1, (w.alloc (.cells #[.int .i64 v.hx, .int .i64 v.hy, .int .i64 v.cp, .int .i64 v.st, .int .i64 v.en] 32)).alloc (.cells #[.int .i64 0, .int .i64 0, .int .i64 0] 126) = w1 := ⟨_, rfl⟩
 have hV1 : At w1 q 32 #[.int .i64 v.hx, .int .i64 v.hy, .int .i64 v.cp, .int .i64 v.st, .int .i64 v.en] := by rw [← hw1]; exact (At.new_ _ _ _ hq.symm).alloc _
 have hR1 : At w1 (q + 1) 126 #[.int .i64 0, .int .i64 0, .int .i64 0] := by rw [← hw1]; exact At.new_ _ _ _ (by simp [hq])
 have hb1 : Below q w w1 := by rw [← hw1]; exact ((Below.refl _ _).alloc (by omega) _).alloc (by simp; omega) _
 have hw1' := Lib.hid hw1
 clear hT hNt ht0 hL hl h0' hw1 hq
 have hrow : Hid (∀ W, Below q w W → Row W.heap.size W (.slice xl N capl) l) := Lib.hid fun W hW => (hL'.out.keep hW (Nat.le_refl _)).more (by have := hW.size; have := hq'.out; omega)
 have htab : Hid (∀ W, Below q w W → Rqs W.heap.size W (.slice xt Nt capt) t) := Lib.hid fun W hW => (hT'.out.keep hW (Nat.le_refl _)).more (by have := hW.size; have := hq'.out; omega)
 clear hL' hT'
 go_enter Tryz.func48, Tryz.ntmps48
 go_upto_region 1 with fail
 simp only [hq'.out]
 rw [hw1'.out]
 have p0 := hV1.cell 0
 have p1 := hV1.cell 1
 have p2 := hV1.cell 2
 have p3 := hV1.cell 3
 have p4 := hV1.cell 4
 simp at p0 p1 p2 p3 p4
 go_wp2_with fail
 refine (refVeh v w1).mono ?_
 clear p0 p1 p2 p3 p4
 rintro e w2 ⟨rfl, hb2⟩
 have hV := hV1.keep hb2 hV1.inside
 have hR := hR1.keep hb2 hR1.inside
 have hB := hb1.trans (hb2.mono (by have := hR1.inside; omega))
 clear hb2 hV1 hR1 hb1 hw1'
 obtain ⟨V, hVc⟩ : ∃ V, v.chk = V := ⟨_, rfl⟩
 rw [hVc]
 have hVc' := Lib.hid hVc
 clear hVc
 cases hv0 : (V == 0)
 · have hv1 : (V != 0) = true := by simpa using hv0
   have hF := Lib.hid (fault_v (l := l) (t := t) (show v.chk ≠ 0 by rw [hVc'.out]; simpa using hv0))
   have r0 := hR.cell 0
   have r1 := hR.cell 1
   have r2 := hR.cell 2
   have rf := hR.free
   simp at r0 r1 r2
   have hRi := hR.inside
   have hRf := put3 (y0 := .int .i64 2) (y1 := .int .i64 0) (y2 := .int .i64 0) hR
   have hBf := Lib.hid (below3 (g := q + 1) (y0 := .int .i64 2) (y1 := .int .i64 0) (y2 := .int .i64 0) hB (by omega))
   have hRf' := Lib.hid hRf
   clear hRf hB hR
   go_wp2
   exact bodyPost_ret (res_fl3 rfl (g := q + 1) (by go_simp) hRf'.out) rfl ⟨ret_fl3 hF.out, hBf.out⟩
 · have hv1 : (V != 0) = false := by simpa using hv0
   have hz : Hid (v.chk = 0) := Lib.hid (by rw [hVc'.out]; simpa using hv0)
   have hst : Hid (0 ≤ v.st ∧ v.st ≤ 1048576 ∧ v.st ≤ v.en ∧ v.en ≤ 1048576) := Lib.hid (veh_bd hz.out)
   go_wp2
   go_loopw [7] (fun i wr => ∃ k : Nat, i = .int .i64 k ∧ k ≤ Nt ∧ (∀ (j : Nat) (q : Rq), j < k → t[j]? = some q → q.chk = 0) ∧ At wr q 32 #[.int .i64 v.hx, .int .i64 v.hy, .int .i64 v.cp, .int .i64 v.st, .int .i64 v.en] ∧ At wr (q + 1) 126 #[.int .i64 0, .int .i64 0, .int .i64 0] ∧ Below q w wr) (fun i _ => Nt - (intOf i).toNat)
   case atStart => exact ⟨0, rfl, Nat.zero_le _, fun j q hj => by omega, hV, hR, hB⟩
   case round =>
    clear hV hR hB
    obtain ⟨k, rfl, hk, hall, hV, hR, hB⟩ := hrel
    by_cases hlt : k < Nt
    · obtain ⟨y, hy⟩ : ∃ y, t[k]? = some y := ⟨t[k]'(by rw [hNt'.out]; exact hlt), List.getElem?_eq_getElem _⟩
      obtain ⟨g, o, rfl, hg, c0, c1, c2, c3, c4, c5, c6, c7, c8, c9⟩ := Rqs.at (htab.out _ hB) hy
      have hy' := Lib.hid hy
      have hall' := Lib.hid hall
      have hlti : (k : Int) < Nt := by omega
      clear hy hall
      go_wp2_with fail
      refine (refReq y _).mono ?_
      rintro e w3 ⟨rfl, hb3⟩
      replace hB := hB.trans (hb3.mono (by have := hR.inside; omega))
      replace hV := hV.keep hb3 hV.inside
      replace hR := hR.keep hb3 hR.inside
      clear hb3 c0 c1 c2 c3 c4 c5 c6 c7 c8 c9
      obtain ⟨Q, hQ⟩ : ∃ Q, y.chk = Q := ⟨_, rfl⟩
      rw [hQ]
      have hQ' := Lib.hid hQ
      clear hQ
      cases hq0 : (Q == 0)
      · have hq1 : (Q != 0) = true := by simpa using hq0
        have hF := Lib.hid (fault_q (l := l) hz.out hall'.out hy'.out (by rw [hQ'.out]; simpa using hq0))
        have r0 := hR.cell 0
        have r1 := hR.cell 1
        have r2 := hR.cell 2
        have rf := hR.free
        simp at r0 r1 r2
        have hRi := hR.inside
        have hRf := put3 (y0 := .int .i64 2) (y1 := .int .i64 1) (y2 := .int .i64 (k : Int)) hR
        have hBf := Lib.hid (below3 (g := q + 1) (y0 := .int .i64 2) (y1 := .int .i64 1) (y2 := .int .i64 (k : Int)) hB (by omega))
        have hRf' := Lib.hid hRf
        clear hRf hB hR
        go_wp2
        exact bodyPost_ret (res_fl3 rfl (g := q + 1) (by go_simp) hRf'.out) rfl ⟨ret_fl3 hF.out, hBf.out⟩
      · have hq1 : (Q != 0) = false := by simpa using hq0
        have hz2 : Hid (y.chk = 0) := Lib.hid (by rw [hQ'.out]; simpa using hq0)
        go_wp2
        go_roundw
        case rel =>
         refine ⟨k + 1, by go_num, hlt, fun j r hj hr => ?_, hV, hR, hB⟩
         rcases Nat.lt_or_ge j k with h | h
         · exact hall'.out j r h hr
         · obtain rfl : j = k := by omega
           rw [hy'.out] at hr
           cases hr
           exact hz2.out
        case measure => simp [intOf]; omega
    · obtain rfl : k = Nt := by omega
      have hall' : Hid (∀ q ∈ t, q.chk = 0) := Lib.hid (fun y hy => by
       obtain ⟨j, hj⟩ := List.mem_iff_getElem?.1 hy
       exact hall j y (by have := (List.getElem?_eq_some_iff.1 hj).1; rw [hNt'.out] at this; omega) hj)
      clear hall
      go_wp2
      obtain ⟨wo, rfl⟩ : ∃ wo, wo = wr := ⟨_, rfl⟩
      go_loopw [8] (fun i wr => ∃ k : Nat, i = .int .i64 k ∧ k ≤ N ∧ Hid (WalkTo v t l k) ∧ At wr q 32 #[.int .i64 v.hx, .int .i64 v.hy, .int .i64 v.cp, .int .i64 v.st, .int .i64 v.en] ∧ At wr (q + 1) 126 #[.int .i64 0, .int .i64 0, .int .i64 0] ∧ Below q w wr) (fun i _ => N - (intOf i).toNat)
      case atStart => exact ⟨0, rfl, Nat.zero_le _, Lib.hid (WalkTo.start v t l), hV, hR, hB⟩
      case round =>
       clear hV hR hB
       obtain ⟨j, rfl, hj, hW, hV, hR, hB⟩ := hrel
       by_cases hlt : j < N
       · obtain ⟨⟨s1, s2⟩, hs⟩ : ∃ s, l[j]? = some s := ⟨l[j]'(by rw [hN'.out]; exact hlt), List.getElem?_eq_getElem _⟩
         have hs' := Lib.hid hs
         have htk := Route.take_get hs
         have hlti : (j : Int) < N := by omega
         have hqs : q ≤ wr.heap.size := by have := hR.inside; omega
         have hj1 : j + 1 ≤ capl := by omega
         have hj2 : j ≤ 100 := by omega
         have hcut : Hid (∀ W, Below q w W → Row W.heap.size W (.slice xl (j + 1) capl) (l.take j ++ [(s1, s2)])) := Lib.hid fun W hW => by
          have := (hrow.out W hW).cutTo hN'.out (show j + 1 ≤ N by omega)
          rw [htk] at this
          exact this
         have hc := fun d os => Calls.regrown_of (stop_any v _ _ (l.take j) s1 s2 t hW.out.1 hall'.out ⟨hst.out.1, hst.out.2.1⟩ (by rw [List.length_take]; omega) (grow (redrawn wr d) os) (hcut.out _ (hB.trans ((below_regrown wr d os).mono hqs))) (htab.out _ (hB.trans ((below_regrown wr d os).mono hqs))))
         obtain ⟨E, hE⟩ : ∃ E, srvV v t earlyP (l.take j) (leaveV v t (l.take j)) (s1, s2) = E := ⟨_, rfl⟩
         rw [hE] at hc
         have hE' := Lib.hid hE
         have p0 := hV.cell 0
         have p1 := hV.cell 1
         have p2 := hV.cell 2
         have p3 := hV.cell 3
         have p4 := hV.cell 4
         simp at p0 p1 p2 p3 p4
         have k0 := cell_regrown p0
         have k1 := cell_regrown p1
         have k2 := cell_regrown p2
         have k3 := cell_regrown p3
         have k4 := cell_regrown p4
         clear hs htk hE
         go_upto_region 11 with fail
         refine wp_region_quiet_below (by kernel_rfl) (by kernel_rfl) ?_
         repeat (go_big_quiet_step (with_reducible exact hc _ _))
         refine wpQuiet_nil ?_
         intro _ hw'
         obtain ⟨⟨dq, osq⟩, hw''⟩ := hw'
         subst hw''
         have hbg := below_regrown wr dq osq
         replace hV := hV.keep hbg hV.inside
         replace hR := hR.keep hbg hR.inside
         replace hB := hB.trans (hbg.mono hqs)
         clear hc p0 p1 p2 p3 p4 k0 k1 k2 k3 k4 hbg hqs
         generalize grow (redrawn wr dq) osq = w5 at *
         cases he0 : (E == 0)
         · have he1 : (E != 0) = true := by simpa using he0
           have hF := Lib.hid (hW.out.stop hz.out hall'.out hs'.out (by rw [hE'.out]; simpa using he0))
           rw [hE'.out] at hF
           have r0 := hR.cell 0
           have r1 := hR.cell 1
           have r2 := hR.cell 2
           have rf := hR.free
           simp at r0 r1 r2
           have hRi := hR.inside
           have hRf := put3 (y0 := .int .i64 E) (y1 := .int .i64 2) (y2 := .int .i64 (j : Int)) hR
           have hBf := Lib.hid (below3 (g := q + 1) (y0 := .int .i64 E) (y1 := .int .i64 2) (y2 := .int .i64 (j : Int)) hB (by omega))
           have hRf' := Lib.hid hRf
           clear hRf hB hR
           go_wp2
           exact bodyPost_ret (res_fl3 rfl (g := q + 1) (by go_simp) hRf'.out) rfl ⟨ret_fl3 hF.out, hBf.out⟩
         · have he1 : (E != 0) = false := by simpa using he0
           have hnx := Lib.hid (hW.out.next hs'.out (by rw [hE'.out]; simpa using he0))
           go_wp2
           go_roundw
           case rel => exact ⟨j + 1, by go_num, hlt, hnx, hV, hR, hB⟩
           case measure => simp [intOf]; omega
       · obtain rfl : j = N := by omega
         have hend := hW.out
         rw [← hN'.out] at hend
         obtain ⟨hstd, hlk⟩ := hend.end hz.out hall'.out
         rw [hN'.out] at hlk
         have hstd' := Lib.hid hstd
         have hlk' : Hid (lookV v l t earlyP = (homeE v t l (leaveV v t l), 3, (l.length : Int))) := Lib.hid (by rw [hN'.out]; exact hlk)
         have hc := Board_any _ _ l t (by rw [hN'.out]; omega) hall'.out hstd.ins wr (hrow.out _ hB) (htab.out _ hB)
         obtain ⟨A, hA⟩ : ∃ A, acc t l = A := ⟨_, rfl⟩
         rw [hA] at hc
         have hA' := Lib.hid hA
         have hqs : q ≤ wr.heap.size := by have := hR.inside; omega
         clear hend hstd hlk hA hW
         go_wp2_with fail
         refine hc.mono ?_
         clear hc
         rintro e w6 ⟨rfl, hb6⟩
         replace hV := hV.keep hb6 hV.inside
         replace hR := hR.keep hb6 hR.inside
         replace hB := hB.trans (hb6.mono hqs)
         replace hqs : q ≤ w6.heap.size := by have := hR.inside; omega
         clear hb6
         by_cases ha : 0 < A
         · have hF := Lib.hid (end_board hlk'.out (by rw [hA'.out]; exact ha))
           rw [hN'.out] at hF
           have r0 := hR.cell 0
           have r1 := hR.cell 1
           have r2 := hR.cell 2
           have rf := hR.free
           simp at r0 r1 r2
           have hRi := hR.inside
           have hRf := put3 (y0 := .int .i64 8) (y1 := .int .i64 3) (y2 := .int .i64 (j : Int)) hR
           have hBf := Lib.hid (below3 (g := q + 1) (y0 := .int .i64 8) (y1 := .int .i64 3) (y2 := .int .i64 (j : Int)) hB (by omega))
           have hRf' := Lib.hid hRf
           clear hRf hB hR
           go_wp2
           exact bodyPost_ret (res_fl3 rfl (g := q + 1) (by go_simp) hRf'.out) rfl ⟨ret_fl3 hF.out, hBf.out⟩
         have hc := Leaves_any v _ _ l t (by rw [hN'.out]; exact hlN) ⟨hst.out.1, hst.out.2.1⟩ (hstd'.out.vis hall'.out) w6 (hrow.out _ hB) (htab.out _ hB)
         obtain ⟨hn1, hn2⟩ := leave_bd ⟨hst.out.1, hst.out.2.1⟩ (hstd'.out.vis hall'.out)
         rw [hN'.out] at hn2
         obtain ⟨S, hS⟩ : ∃ S, leaveV v t l = S := ⟨_, rfl⟩
         rw [hS] at hc hn1 hn2
         have hS' := Lib.hid hS
         obtain ⟨now, ax, ay⟩ := S
         simp only at hc hn1 hn2
         have hn3 : now ≤ 200000000 := by omega
         have p0 := hV.cell 0
         have p1 := hV.cell 1
         have p2 := hV.cell 2
         have p3 := hV.cell 3
         have p4 := hV.cell 4
         simp at p0 p1 p2 p3 p4
         clear hn2 hS
         go_wp2_with fail
         refine hc.mono ?_
         clear hc p0 p1 p2 p3 p4
         rintro e w7 ⟨rfl, hb7⟩
         obtain ⟨m1, hm1⟩ : ∃ m1, w7.heap.size = m1 := ⟨_, rfl⟩
         obtain ⟨w8, hw8⟩ : ∃ w8, w7.alloc (.cells #[.int .i64 ax, .int .i64 ay] 30) = w8 := ⟨_, rfl⟩
         have hb8 : Below w7.heap.size w7 w8 := by rw [← hw8]; exact (Below.refl _ _).alloc (Nat.le_refl _) _
         have hX8 : At w8 m1 30 #[.int .i64 ax, .int .i64 ay] := by rw [← hw8]; exact At.new_ _ _ _ hm1.symm
         have hb68 := hb7.trans (hb8.mono hb7.size)
         replace hV := hV.keep hb68 hV.inside
         replace hR := hR.keep hb68 hR.inside
         replace hB := hB.trans (hb68.mono hqs)
         replace hqs : q ≤ w8.heap.size := by have := hR.inside; omega
         have hw8' := Lib.hid hw8
         have hm1' := Lib.hid hm1
         clear hb7 hb8 hb68 hw8 hm1
         go_upto_region 17 with fail
         simp only [hm1'.out]
         rw [hw8'.out]
         obtain ⟨D, hD⟩ : ∃ D, distV (ax, ay) (v.hx, v.hy) = D := ⟨_, rfl⟩
         have hDb : 0 ≤ D ∧ D ≤ 100000 := by rw [← hD]; exact dist_bd _ _
         obtain ⟨hD1, hD2⟩ := hDb
         have hcD := fun d os => Calls.regrown_of (refDist_any ax ay v.hx v.hy (grow (redrawn w8 d) os))
         rw [hD] at hcD
         have har : Hid (arV (leaveV v t l) (homeV v) = now + D) := Lib.hid (by rw [hS'.out]; unfold arV; rw [← hD]; rfl)
         have p0 := hV.cell 0
         have p1 := hV.cell 1
         have p4 := hV.cell 4
         have x0 := hX8.cell 0
         have x1 := hX8.cell 1
         simp at p0 p1 p4 x0 x1
         have k0 := cell_regrown p0
         have k1 := cell_regrown p1
         have k4 := cell_regrown p4
         have kx0 := cell_regrown x0
         have kx1 := cell_regrown x1
         clear hD
         refine wp_region_quiet_below (by kernel_rfl) (by kernel_rfl) ?_
         repeat (go_big_quiet_step (with_reducible exact hcD _ _))
         refine wpQuiet_nil ?_
         intro _ hw'
         obtain ⟨⟨dq, osq⟩, hw''⟩ := hw'
         subst hw''
         have hbg := below_regrown w8 dq osq
         replace hR := hR.keep hbg hR.inside
         replace hB := hB.trans (hbg.mono hqs)
         clear hcD p0 p1 p4 k0 k1 k4 kx0 kx1 x0 x1 hbg hqs hX8 hV
         generalize grow (redrawn w8 dq) osq = w9 at *
         by_cases hlt2 : v.en < now + D
         · have hF := Lib.hid (end_late hlk'.out (by rw [hA'.out]; omega) (by rw [har.out]; exact hlt2))
           rw [hN'.out] at hF
           have r0 := hR.cell 0
           have r1 := hR.cell 1
           have r2 := hR.cell 2
           have rf := hR.free
           simp at r0 r1 r2
           have hRi := hR.inside
           have hRf := put3 (y0 := .int .i64 9) (y1 := .int .i64 3) (y2 := .int .i64 (j : Int)) hR
           have hBf := Lib.hid (below3 (g := q + 1) (y0 := .int .i64 9) (y1 := .int .i64 3) (y2 := .int .i64 (j : Int)) hB (by omega))
           have hRf' := Lib.hid hRf
           clear hRf hB hR
           go_wp2
           exact bodyPost_ret (res_fl3 rfl (g := q + 1) (by go_simp) hRf'.out) rfl ⟨ret_fl3 hF.out, hBf.out⟩
         · have hF := Lib.hid (end_ok hlk'.out (by rw [hA'.out]; omega) (by rw [har.out]; exact hlt2))
           have r0 := hR.cell 0
           have r1 := hR.cell 1
           have r2 := hR.cell 2
           have rf := hR.free
           simp at r0 r1 r2
           have hRi := hR.inside
           have hRf := put3 (y0 := .int .i64 0) (y1 := .int .i64 0) (y2 := .int .i64 0) hR
           have hBf := Lib.hid (below3 (g := q + 1) (y0 := .int .i64 0) (y1 := .int .i64 0) (y2 := .int .i64 0) hB (by omega))
           have hRf' := Lib.hid hRf
           clear hRf hB hR
           go_wp2
           exact bodyPost_ret (res_fl3 rfl (g := q + 1) (by go_simp) hRf'.out) rfl ⟨ret_fl3 hF.out, hBf.out⟩
def mayB (v : Vh) (l : List (Int × Int)) (t : List Rq) : Bool := decide (v.chk = 0) && decide (checkV l = 0) && decide (∀ q ∈ t, q.chk = 0) && decide (∀ s ∈ l, s.1 < (t.length : Int)) && boardB v.cp t [] l
theorem may_iff {v : Vh} {l : List (Int × Int)} {t : List Rq} : mayB v l t = true ↔ v.chk = 0 ∧ checkV l = 0 ∧ (∀ q ∈ t, q.chk = 0) ∧ (∀ s ∈ l, s.1 < (t.length : Int)) ∧ boardB v.cp t [] l = true := by
 simp only [mayB, Bool.and_eq_true, decide_eq_true_eq, and_assoc]
theorem may_no {v : Vh} {l : List (Int × Int)} {t : List Rq} (h : ¬ (v.chk = 0 ∧ checkV l = 0 ∧ (∀ q ∈ t, q.chk = 0) ∧ (∀ s ∈ l, s.1 < (t.length : Int)) ∧ boardB v.cp t [] l = true)) : mayB v l t = false := by
 cases e : mayB v l t
 · rfl
 · exact absurd (may_iff.1 e) h
end Go.Proofs.YteclpblfleakhaaGreatDoor.Feas
namespace Go.Proofs.YteclpblfleakhaaGreatDoor.Feas
open Go.Proofs.YteclpblfleakhaaGreatDoor.Order Go.Proofs.YteclpblfleakhaaGreatDoor.Place Go.Proofs.YteclpblfleakhaaGreatDoor.Route Go.Proofs.YteclpblfleakhaaGreatDoor.When Go.Proofs.YteclpblfleakhaaGreatDoor.Load
set_option linter.unusedVariables false
theorem Std.own {t : List Rq} {l : List (Int × Int)} (h : Std t l) (r : Int) : ofR r l = [] ∨ ofR r l = [(r, 0)] ∨ ofR r l = [(r, 0), (r, 1)] := by
 induction l using snoc_ind with
 | h0 => exact .inl rfl
 | h1 l s ih =>
  obtain ⟨h1, h2⟩ := h.init
  obtain ⟨_, h3, h4⟩ := stB_iff.1 h2
  have i := ih h1
  obtain ⟨s1, s2⟩ := s
  simp only at h3 h4
  rw [ofR_append]
  by_cases hr : s1 = r
  · subst hr
    rw [ofR_cons_same (s := (s1, s2)) rfl]
    unfold nR at h4
    rcases i with i | i | i <;> rw [i] at h4 ⊢ <;> simp at h4 <;> subst h4 <;> simp [ofR]
    omega
  · rw [ofR_cons_other hr]
    rcases i with i | i | i <;> rw [i] <;> simp [ofR]
theorem Std.less {t : List Rq} {l : List (Int × Int)} (h : Std t l) (r : Int) : Std t (woL r l) := by
 induction l using snoc_ind with
 | h0 => exact Std.nil t
 | h1 l s ih =>
  obtain ⟨h1, h2⟩ := h.init
  have i := ih h1
  rw [wo_append]
  by_cases hs : s.1 = r
  · have : woL r [s] = [] := by simp [woL, hs]
    rw [this, List.append_nil]
    exact i
  · have : woL r [s] = [s] := by simp [woL, hs]
    rw [this]
    refine i.snoc ?_
    obtain ⟨a, b, c⟩ := stB_iff.1 h2
    refine stB_iff.2 ⟨a, b, ?_⟩
    unfold nR at c ⊢
    rw [ofR_wo hs]
    exact c
theorem acc_one {t : List Rq} (r : Int) : acc t [(r, 0)] = ldR t r ∧ acc t [(r, 0), (r, 1)] = 0 := by
 constructor <;> simp [acc, stN, sg]
 omega
theorem Std.acc_nonneg {t : List Rq} (ht : ∀ q ∈ t, q.chk = 0) : ∀ (n : Nat) {l : List (Int × Int)}, l.length ≤ n → Std t l → 0 ≤ acc t l
 | 0, l, hn, _ => by
  obtain rfl : l = [] := List.eq_nil_of_length_eq_zero (by omega)
  exact Int.le_refl _
 | n + 1, [], _, _ => Int.le_refl _
 | n + 1, s :: l, hn, h => by
  have e := acc_wo t s.1 (s :: l)
  have h2 := Std.acc_nonneg ht n (l := woL s.1 (s :: l)) (by rw [wo_cons_own rfl]; have := wo_length s.1 l; simp at hn; omega) (h.less s.1)
  have h3 : 0 ≤ acc t (ofR s.1 (s :: l)) := by
   rcases h.own s.1 with i | i | i <;> rw [i]
   · exact Int.le_refl _
   · rw [(acc_one s.1).1]; exact ld_nonneg ht s.1
   · rw [(acc_one s.1).2]; exact Int.le_refl _
  omega
theorem Std.route {t : List Rq} (ht : ∀ q ∈ t, q.chk = 0) {l : List (Int × Int)} (h : Std t l) (ha : acc t l ≤ 0) : isR l = true := by
 refine isR_iff.2 fun s hs => ?_
 have hi := h.ins s hs
 refine ⟨hi.1, ?_⟩
 rcases h.own s.1 with i | i | i
 · have := mem_ofR.2 ⟨hs, rfl⟩
   rw [i] at this
   cases this
 · exfalso
   have e := acc_wo t s.1 l
   have h2 := Std.acc_nonneg ht l.length (l := woL s.1 l) (wo_length s.1 l) (h.less s.1)
   rw [i, (acc_one s.1).1] at e
   have hq : t[s.1.toNat]? = some (t[s.1.toNat]'(by omega)) := List.getElem?_eq_getElem _
   have := chk_ld ht _ (List.getElem_mem (h := (by omega : s.1.toNat < t.length)))
   rw [ldR_get hq] at e
   omega
 · exact i
theorem walk_std {v : Vh} {t : List Rq} {P : Pace} : ∀ {l pre : List (Int × Int)} {a : Sp}, Std t pre → pre.length ≤ 16 → (walkV v t P pre a l).1 = 0 → Std t (pre ++ l) ∧ (pre ++ l).length ≤ 16 ∧ boardB v.cp t pre l = true
 | [], pre, a, h, hn, _ => by rw [List.append_nil]; exact ⟨h, hn, rfl⟩
 | s :: l, pre, a, h, hn, h0 => by
  by_cases hs : srvV v t P pre a s = 0
  · obtain ⟨b1, b2, b3, b4⟩ := srv_bits.1 hs
    rw [walkV_go hs] at h0
    obtain ⟨i1, i2, i3⟩ := walk_std (h.snoc b2) (by simp; omega) h0
    rw [show pre ++ s :: l = (pre ++ [s]) ++ l by simp]
    exact ⟨i1, i2, by rw [boardB, i3, decide_eq_true b3]; rfl⟩
  · rw [walkV_stop hs] at h0
    exact absurd h0 hs
theorem look_may {v : Vh} {l : List (Int × Int)} {t : List Rq} {P : Pace} (h : (lookV v l t P).1 = 0) : mayB v l t = true := by
 unfold lookV at h
 split at h
 · simp at h
 rename_i hv
 split at h
 · simp at h
 rename_i hb
 dsimp only at h
 split at h
 · rename_i hw; simp at h; exact absurd h hw
 rename_i hw
 have ht := badK_ok.1 (show badK t < 0 by omega)
 obtain ⟨h1, h2, h3⟩ := walk_std (Std.nil t) (by simp) (show (walkV v t P [] (sp0 v) l).1 = 0 by omega)
 rw [List.nil_append] at h1 h2
 have ha : acc t l ≤ 0 := by
  unfold homeE at h
  split at h
  · simp at h
  · omega
 have hR := h1.route ht ha
 refine may_iff.2 ⟨by omega, ?_, ht, fun s hs => (h1.ins s hs).2, h3⟩
 unfold checkV
 rw [if_neg (by omega), if_pos hR]
theorem may_dr {v : Vh} {l : List (Int × Int)} {t : List Rq} (h : mayB v l t = true) : v.chk = 0 ∧ (∀ q ∈ t, q.chk = 0) ∧ isR l = true ∧ l.length ≤ 16 ∧ InR t l ∧ boardB v.cp t [] l = true := by
 obtain ⟨h1, h2, h3, h4, h5⟩ := may_iff.1 h
 obtain ⟨h6, h7⟩ := check_isR h2
 exact ⟨h1, h3, h6, h7, h4, h5⟩
def homeB (v : Vh) : Option Sp → Bool
 | some b => decide (arV b (homeV v) ≤ v.en)
 | none => false
def KeptTo (v : Vh) (t : List Rq) (l : List (Int × Int)) (ts : List Tm) (k : Nat) (S : Sp) : Prop := keptL (sp0 v) (visL t l) ts = keptL S (visL t (l.drop k)) (ts.drop k)
theorem KeptTo.next {v : Vh} {t : List Rq} {l : List (Int × Int)} {ts : List Tm} {k : Nat} {S : Sp} {s : Int × Int} {y : Tm} {x : Vi} (h : KeptTo v t l ts k S) (hs : l[k]? = some s) (hy : ts[k]? = some y) (hx : visV t s = x) (hk : keptB x (arV S x) y = true) : KeptTo v t l ts (k + 1) ⟨y.lv, x.px, x.py⟩ := by
 obtain ⟨h1, e1⟩ := List.getElem?_eq_some_iff.1 hs
 obtain ⟨h2, e2⟩ := List.getElem?_eq_some_iff.1 hy
 unfold KeptTo at h ⊢
 rw [h, List.drop_eq_getElem_cons h1, List.drop_eq_getElem_cons h2, e1, e2]
 show keptL S (visV t s :: visL t (l.drop (k + 1))) _ = _
 rw [keptL, hx, if_pos hk]
theorem KeptTo.no {v : Vh} {t : List Rq} {l : List (Int × Int)} {ts : List Tm} {k : Nat} {S : Sp} {s : Int × Int} {y : Tm} {x : Vi} (h : KeptTo v t l ts k S) (hs : l[k]? = some s) (hy : ts[k]? = some y) (hx : visV t s = x) (hk : keptB x (arV S x) y = false) : homeB v (keptL (sp0 v) (visL t l) ts) = false := by
 obtain ⟨h1, e1⟩ := List.getElem?_eq_some_iff.1 hs
 obtain ⟨h2, e2⟩ := List.getElem?_eq_some_iff.1 hy
 unfold KeptTo at h
 rw [h, List.drop_eq_getElem_cons h1, List.drop_eq_getElem_cons h2, e1, e2]
 show homeB v (keptL S (visV t s :: visL t (l.drop (k + 1))) _) = _
 rw [keptL, hx, hk]
 rfl
theorem KeptTo.end {v : Vh} {t : List Rq} {l : List (Int × Int)} {ts : List Tm} {S : Sp} (h : KeptTo v t l ts l.length S) : homeB v (keptL (sp0 v) (visL t l) ts) = decide (arV S (homeV v) ≤ v.en) := by
 unfold KeptTo at h
 rw [h, List.drop_length]
 rfl
theorem InR.vis {t : List Rq} {l : List (Int × Int)} (hR : isR l = true) (h : InR t l) (ht : ∀ q ∈ t, q.chk = 0) : ∀ s ∈ l, ∃ x, visO t s = some x ∧ OkVi x := by
 intro s hs
 obtain ⟨p, q, e⟩ := List.append_of_mem hs
 obtain ⟨x, hx, _⟩ := stB_vis (route_stB hR h e)
 exact ⟨x, hx, vis_ok ht hx⟩
end Go.Proofs.YteclpblfleakhaaGreatDoor.Feas

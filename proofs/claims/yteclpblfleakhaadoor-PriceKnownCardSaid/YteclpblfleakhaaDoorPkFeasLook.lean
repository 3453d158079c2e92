import Derived.Test.YteclpblfleakhaaDoorPkCheapRefAll

namespace Go.Proofs.YteclpblfleakhaaDoor.Feas
open Go.RowKit Go.Sort Go.Proofs.YteclpblfleakhaaDoor.Mem Go.Proofs.YteclpblfleakhaaDoor.Route Go.Proofs.YteclpblfleakhaaDoor.When Go.Proofs.YteclpblfleakhaaDoor.Load Go.Proofs.YteclpblfleakhaaDoor.Float Go.Proofs.YteclpblfleakhaaDoor.Tail Go.Proofs.YteclpblfleakhaaDoor.Place
set_option linter.unusedVariables false
theorem reqCheck (q : Rq) (w : World) : Calls Tryd.prog 40 #[.agg #[.int .i64 q.fx, .int .i64 q.fy, .int .i64 q.tx, .int .i64 q.ty, .int .i64 q.pe, .int .i64 q.pl, .int .i64 q.de, .int .i64 q.dl, .int .i64 q.ld, .int .i64 q.sv]] w
 fun e w' => e = .returned (.int .i64 q.chk) ∧ Below w.heap.size w w' := Order.Check_any _ _ _ _ _ _ _ _ _ _ w
theorem vehCheck (v : Vh) (w : World) : Calls Tryd.prog 39 #[.agg #[.int .i64 v.hx, .int .i64 v.hy, .int .i64 v.cp, .int .i64 v.st, .int .i64 v.en]] w
 fun e w' => e = .returned (.int .i64 v.chk) ∧ Below w.heap.size w w' := Order.Vehicle_any _ _ _ _ _ w
theorem res_flt {fn : Func} {p : Tmp} (h : fn.results = #[.cell p 98]) {tmps : Array Value} {w : World} {g : Nat} {x0 x1 x2 : Value} (hp : tmps.getD p undef = .pointer (some ⟨g, 0, none⟩))
 (hA : At w g 98 #[x0, x1, x2]) : (results fn tmps).run Tryd.prog w = .ok (.agg #[x0, x1, x2]) w := by
 have hp' : tmps[p]?.getD undef = .pointer (some ⟨g, 0, none⟩) := by simpa using hp
 have c0 := hA.cell 0
 have c1 := hA.cell 1
 have c2 := hA.cell 2
 simp at c0 c1 c2
 simp only [results, h]
 go_simp
theorem ret_f3 {a b c : Int} {f : Int × Int × Int} (h : f = (a, b, c)) : Ending.returned (.agg #[.int .i64 a, .int .i64 b, .int .i64 c]) = .returned (.agg #[.int .i64 f.1, .int .i64 f.2.1, .int .i64 f.2.2]) := by rw [h]
section
variable {v : Vh} {l : List (Int × Int)} {t : List Rq} {P : Pace}
theorem look_v (h : v.chk ≠ 0) : lookV v l t P = (2, 0, 0) := by unfold lookV; rw [if_pos h]
theorem look_q {k : Nat} {q : Rq} (h : v.chk = 0) (hk : t[k]? = some q) (hq : q.chk ≠ 0) (ha : ∀ (j : Nat) (q : Rq), j < k → t[j]? = some q → q.chk = 0) : lookV v l t P = (2, 1, (k : Int)) := by
 have hb : badK t = k := by
  obtain ⟨hlt, hx⟩ := List.getElem?_eq_some_iff.1 hk
  have hs : t = t.take k ++ q :: t.drop (k + 1) := by rw [← hx, ← List.drop_eq_getElem_cons hlt, List.take_append_drop]
  have h1 := fstBad_at hq (pre := t.take k) (rest := t.drop (k + 1)) (k := 0) (fun x hx => by
   obtain ⟨j, hj⟩ := List.getElem?_of_mem hx
   have hj2 : j < k := by have := (List.getElem?_eq_some_iff.1 hj).1; rw [List.length_take] at this; omega
   rw [List.getElem?_take_of_lt hj2] at hj
   exact ha j x hj2 hj)
  unfold badK
  rw [hs, h1, List.length_take]
  omega
 unfold lookV
 rw [if_neg (by simpa using h), if_pos (by rw [hb]; omega), hb]
theorem look_w (h : v.chk = 0) (ha : ∀ q ∈ t, q.chk = 0) (hy : (walkV v t P [] (sp0 v) l).1 ≠ 0) : lookV v l t P = ((walkV v t P [] (sp0 v) l).1, 2, (((walkV v t P [] (sp0 v) l).2.1 : Nat) : Int)) := by
 unfold lookV
 rw [if_neg (by simpa using h), if_neg (by rw [badK_all ha]; omega)]
 simp only
 rw [if_pos hy]
theorem look_h (h : v.chk = 0) (ha : ∀ q ∈ t, q.chk = 0) (hy : (walkV v t P [] (sp0 v) l).1 = 0) : lookV v l t P = (homeE v t l (walkV v t P [] (sp0 v) l).2.2, 3, ((l.length : Nat) : Int)) := by
 unfold lookV
 rw [if_neg (by simpa using h), if_neg (by rw [badK_all ha]; omega)]
 simp only
 rw [if_neg (by simpa using hy)]
end
theorem put3f {w : World} {g : Nat} {t : TypeId} {x0 x1 x2 y0 y1 y2 : Value} (h : At w g t #[x0, x1, x2]) :
 At (((w.setCell ⟨g, 0, none⟩ y0).setCell ⟨g, 1, none⟩ y1).setCell ⟨g, 2, none⟩ y2) g t #[y0, y1, y2] := by
 simpa using ((h.put 0 y0).put 1 y1).put 2 y2
theorem below3 {B g : Nat} {W w : World} (h : Below B W w) (hg : B ≤ g) {y0 y1 y2 : Value} : Below B W (((w.setCell ⟨g, 0, none⟩ y0).setCell ⟨g, 1, none⟩ y1).setCell ⟨g, 2, none⟩ y2) := ((h.setCell hg _).setCell hg _).setCell hg _
theorem veh_bd {v : Vh} (h : v.chk = 0) : 0 ≤ v.st ∧ v.st ≤ 1048576 ∧ v.st ≤ v.en ∧ v.en ≤ 1048576 := by
 unfold Vh.chk at h
 have := (Order.veh_iff ..).1 h
 omega
theorem tripS_new {v : Vh} {vt kv : Value} {t : List Rq} {W : World} {m : Nat} (hv : v.chk = 0) (hm : W.heap.size = m) : TripS v vt kv (m + 1) m t [] (sp0 v) ((W.alloc (.map #[] 0)).alloc (.cells #[.int .i64 v.hx, .int .i64 v.hy, .int .i64 v.cp, .int .i64 v.st, .int .i64 v.en, vt, kv, .map (some m), .int .i64 0, .int .i64 v.hx, .int .i64 v.hy, .int .i64 v.st] 135)) := by
 have h1 := veh_bd hv
 refine ⟨At.new_ _ _ _ (by simp [hm]), FateAt.funs ?_ fateF_nil, ⟨h1.1, by show v.st ≤ _; omega⟩, by simp, by simp [acc]⟩
 have := (FateAt.made W).alloc (.cells #[.int .i64 v.hx, .int .i64 v.hy, .int .i64 v.cp, .int .i64 v.st, .int .i64 v.en, vt, kv, .map (some m), .int .i64 0, .int .i64 v.hx, .int .i64 v.hy, .int .i64 v.st] 135)
 rw [hm] at this
 exact this
theorem run_store_fn {P : Program} {w : World} {a : Addr} {m : Mode} (f : Fn) (xs cs : Array Value) : (store a (.func f xs cs) m).run P w = stored P w a (.func f xs cs) m := run_store P w a _ m rfl
attribute [local go_sem] run_store_fn
set_option maxRecDepth 100000 in
set_option maxHeartbeats 4000000 in
theorem lookN (v : Vh) (vl vt : Value) (n : Nat) (P : Pace) (hPB : PB P) (l : List (Int × Int)) (t : List Rq) (hl : l.length ≤ 1000000) (hnum : Nums l) (w : World) (hL : Row w.heap.size w vl l) (hT : Rqs w.heap.size w vt t)
 (hP : PassC (.func (.func n) #[] #[]) l.length w.heap.size w P) :
 Calls Tryd.prog 33 #[.agg #[.int .i64 v.hx, .int .i64 v.hy, .int .i64 v.cp, .int .i64 v.st, .int .i64 v.en], vl, vt, .func (.func n) #[] #[]] w fun e w' => e = .returned (.agg #[.int .i64 (lookV v l t P).1, .int .i64 (lookV v l t P).2.1, .int .i64 (lookV v l t P).2.2]) ∧ Below w.heap.size w w' := by
 have hv := vehCheck v
 obtain ⟨q, hq⟩ : ∃ q, w.heap.size = q := ⟨_, rfl⟩
 obtain ⟨w0, hw0⟩ : ∃ w0, (w.alloc (.cells #[.int .i64 v.hx, .int .i64 v.hy, .int .i64 v.cp, .int .i64 v.st, .int .i64 v.en] 47)).alloc (.cells #[.int .i64 0, .int .i64 0, .int .i64 0] 98) = w0 := ⟨_, rfl⟩
 have hV : At w0 q 47 #[.int .i64 v.hx, .int .i64 v.hy, .int .i64 v.cp, .int .i64 v.st, .int .i64 v.en] := by rw [← hw0]; exact (At.new_ _ _ _ hq.symm).alloc _
 have hF : At w0 (q + 1) 98 #[.int .i64 0, .int .i64 0, .int .i64 0] := by rw [← hw0]; exact At.new_ _ _ _ (by simp [hq])
 have hb0 : Below w.heap.size w w0 := by rw [← hw0]; exact ((Below.refl _ _).alloc (Nat.le_refl _) _).alloc (by simp) _
 obtain ⟨xl, Nl, capl, rfl, hNl, hl0, hlc1, hlc2⟩ := hL.opened
 obtain ⟨xt, Nt, capt, rfl, hNt0, htc1, htc2, ht0⟩ := hT.opened
 have hNt := Lib.hid hNt0
 clear hNt0 ht0 hl0
 unfold maxLen at htc2 hlc2
 obtain ⟨V, hV0⟩ : ∃ V, v.chk = V := ⟨_, rfl⟩
 simp only [hV0] at hv
 have hL' := Lib.hid hL
 have hT' := Lib.hid hT
 have hP' := Lib.hid hP
 have hV' := Lib.hid hV0
 have hw0' := Lib.hid hw0
 have hq' := Lib.hid hq
 have hnum' := Lib.hid hnum
 have hPB' := Lib.hid hPB
 have hl' := Lib.hid hl
 have hNl' : Hid (l.length = Nl) := hNl
 have hqle : w.heap.size ≤ q := by omega
 have hqle1 : w.heap.size ≤ q + 1 := by omega
 clear hl hnum hL hT hV0 hP hPB hw0 hq hNl
 have v0 := hV.cell 0
 have v1 := hV.cell 1
 have v2 := hV.cell 2
 have v3 := hV.cell 3
 have v4 := hV.cell 4
 simp at v0 v1 v2 v3 v4
 go_enter Tryd.func33, Tryd.ntmps33
 go_upto_region 1 with fail
 simp only [hq'.out]
 rw [hw0'.out]
 go_wp2_with fail
 refine (hv _).mono ?_
 rintro e w1 ⟨rfl, hb1⟩
 have hB := hb0.trans (hb1.mono hb0.size)
 have hV1 := hV.keep hb1 hV.inside
 have hF1 := hF.keep hb1 hF.inside
 clear hb0 hb1 hV hF hv v0 v1 v2 v3 v4
 cases hv0 : (V == 0)
 · have hv1 : (V != 0) = true := by simpa using hv0
   have hw := Lib.hid (look_v (l := l) (t := t) (P := P) (show v.chk ≠ 0 by rw [hV'.out]; simpa using hv0))
   have f0 := hF1.cell 0
   have f1 := hF1.cell 1
   have f2 := hF1.cell 2
   have ff := hF1.free
   simp at f0 f1 f2
   go_wp2
   exact bodyPost_ret (res_flt rfl rfl (put3f hF1)) rfl ⟨ret_f3 hw.out, below3 hB hqle1⟩
 · have hv1 : (V != 0) = false := by simpa using hv0
   have hz : Hid (v.chk = 0) := Lib.hid (by rw [hV'.out]; simpa using hv0)
   go_wp2
   go_loopw [20] (fun i wr => ∃ k : Nat, i = .int .i64 k ∧ k ≤ Nt ∧ (∀ (j : Nat) (q : Rq), j < k → t[j]? = some q → q.chk = 0) ∧ At wr q 47 #[.int .i64 v.hx, .int .i64 v.hy, .int .i64 v.cp, .int .i64 v.st, .int .i64 v.en] ∧ At wr (q + 1) 98 #[.int .i64 0, .int .i64 0, .int .i64 0] ∧ Below w.heap.size w wr) (fun i _ => Nt - (intOf i).toNat)
   case atStart => exact ⟨0, rfl, Nat.zero_le _, fun j q hj => by omega, hV1, hF1, hB⟩
   case round =>
    obtain ⟨k, rfl, hk, hall, hVr, hFr, hbw⟩ := hrel
    clear hB hV1 hF1
    by_cases hlt : k < Nt
    · obtain ⟨r, hr⟩ : ∃ r, t[k]? = some r := ⟨t[k]'(by rw [hNt.out]; exact hlt), List.getElem?_eq_getElem _⟩
      obtain ⟨g, o, rfl, hg, c0, c1, c2, c3, c4, c5, c6, c7, c8, c9⟩ := Rqs.at (hT'.out.keep hbw (Nat.le_refl _)) hr
      have hr' := Lib.hid hr
      have hall' := Lib.hid hall
      obtain ⟨w3, hw3⟩ : ∃ w3, wr.alloc (.cells #[.int .i64 r.fx, .int .i64 r.fy, .int .i64 r.tx, .int .i64 r.ty, .int .i64 r.pe, .int .i64 r.pl, .int .i64 r.de, .int .i64 r.dl, .int .i64 r.ld, .int .i64 r.sv] 68) = w3 := ⟨_, rfl⟩
      obtain ⟨m, hm⟩ : ∃ m, wr.heap.size = m := ⟨_, rfl⟩
      have hR : At w3 m 68 #[.int .i64 r.fx, .int .i64 r.fy, .int .i64 r.tx, .int .i64 r.ty, .int .i64 r.pe, .int .i64 r.pl, .int .i64 r.de, .int .i64 r.dl, .int .i64 r.ld, .int .i64 r.sv] := by rw [← hw3]; exact At.new_ _ _ _ hm.symm
      have hb3 : Below wr.heap.size wr w3 := by rw [← hw3]; exact (Below.refl _ _).alloc (Nat.le_refl _) _
      have hV3 := hVr.keep hb3 hVr.inside
      have hF3 := hFr.keep hb3 hFr.inside
      have hB3 := hbw.trans (hb3.mono hbw.size)
      have hw3' := Lib.hid hw3
      have hm' := Lib.hid hm
      have r0 := hR.cell 0
      have r1 := hR.cell 1
      have r2 := hR.cell 2
      have r3 := hR.cell 3
      have r4 := hR.cell 4
      have r5 := hR.cell 5
      have r6 := hR.cell 6
      have r7 := hR.cell 7
      have r8 := hR.cell 8
      have r9 := hR.cell 9
      simp at r0 r1 r2 r3 r4 r5 r6 r7 r8 r9
      clear hr hall hVr hFr hbw hb3 hw3 hm
      go_upto_region 6 with fail
      simp only [hm'.out]
      rw [hw3'.out]
      go_wp2_with fail
      refine (reqCheck r _).mono ?_
      rintro e w4 ⟨rfl, hb4⟩
      have hV4 := hV3.keep hb4 hV3.inside
      have hF4 := hF3.keep hb4 hF3.inside
      have hB4 := hB3.trans (hb4.mono hB3.size)
      clear hb4 hV3 hF3 hB3 c0 c1 c2 c3 c4 c5 c6 c7 c8 c9 r0 r1 r2 r3 r4 r5 r6 r7 r8 r9 hR
      obtain ⟨Q, hQ⟩ : ∃ Q, r.chk = Q := ⟨_, rfl⟩
      rw [hQ]
      have hQ' := Lib.hid hQ
      clear hQ
      cases hq0 : (Q == 0)
      · have hq1 : (Q != 0) = true := by simpa using hq0
        have hw := Lib.hid (look_q (l := l) (P := P) hz.out hr'.out (by rw [hQ'.out]; simpa using hq0) hall'.out)
        have f0 := hF4.cell 0
        have f1 := hF4.cell 1
        have f2 := hF4.cell 2
        have ff := hF4.free
        simp at f0 f1 f2
        go_wp2
        exact bodyPost_ret (res_flt rfl rfl (put3f hF4)) rfl ⟨ret_f3 hw.out, below3 hB4 hqle1⟩
      · have hq1 : (Q != 0) = false := by simpa using hq0
        have hz2 : Hid (r.chk = 0) := Lib.hid (by rw [hQ'.out]; simpa using hq0)
        go_wp2
        go_roundw
        case rel =>
         refine ⟨k + 1, by go_num, hlt, fun j x hj hx => ?_, hV4, hF4, hB4⟩
         rcases Nat.lt_or_ge j k with h | h
         · exact hall'.out j x h hx
         · obtain rfl : j = k := by omega
           rw [hr'.out] at hx
           cases hx
           exact hz2.out
        case measure => simp [intOf]; omega
    · obtain rfl : k = Nt := by omega
      have hall' : Hid (∀ q ∈ t, q.chk = 0) := Lib.hid (fun q hq => by
       obtain ⟨j, hj⟩ := List.getElem?_of_mem hq
       exact hall j q (by have := (List.getElem?_eq_some_iff.1 hj).1; rw [hNt.out] at this; omega) hj)
      clear hall
      obtain ⟨m, hm⟩ : ∃ m, wr.heap.size = m := ⟨_, rfl⟩
      obtain ⟨w3, hw3⟩ : ∃ w3, (wr.alloc (.map #[] 0)).alloc (.cells #[.int .i64 v.hx, .int .i64 v.hy, .int .i64 v.cp, .int .i64 v.st, .int .i64 v.en, .slice xt k capt, .func (.func n) #[] #[], .map (some m), .int .i64 0, .int .i64 v.hx, .int .i64 v.hy, .int .i64 v.st] 135) = w3 := ⟨_, rfl⟩
      have hS := tripS_new (vt := .slice xt k capt) (kv := .func (.func n) #[] #[]) (t := t) hz.out hm
      rw [hw3] at hS
      have hb3 : Below wr.heap.size wr w3 := by rw [← hw3]; exact ((Below.refl _ _).alloc (Nat.le_refl _) _).alloc (by simp) _
      have hBw3 := hbw.trans (hb3.mono hbw.size)
      have hF3 := hFr.keep hb3 hFr.inside
      have hBm : w.heap.size ≤ m := by have := hbw.size; omega
      have hqm : q + 1 < m := by have := hFr.inside; omega
      have hB3 : w.heap.size ≤ w3.heap.size := hBw3.size
      have hwk := walk_any v (.slice xl Nl capl) (.slice xt k capt) (.func (.func n) #[] #[]) (m + 1) m w.heap.size P hPB'.out l t w3 hl'.out hnum'.out hall'.out hz.out hS (hL'.out.keep hBw3 (Nat.le_refl _)) (hT'.out.keep hBw3 (Nat.le_refl _)) hB3 ⟨by omega, hBm⟩ (hP'.out.on hBw3)
      have hlw := Lib.hid (fun h => look_w (l := l) (t := t) (P := P) hz.out hall'.out h)
      have hlh := Lib.hid (fun h => look_h (l := l) (t := t) (P := P) hz.out hall'.out h)
      generalize walkV v t P [] (sp0 v) l = Y at *
      obtain ⟨C, K, a⟩ := Y
      simp only at hwk
      have hw3' := Lib.hid hw3
      have hm' := Lib.hid hm
      have hmm := @run_makeMap Tryd.prog
      have v0 := hVr.cell 0
      have v1 := hVr.cell 1
      have v2 := hVr.cell 2
      have v3 := hVr.cell 3
      have v4 := hVr.cell 4
      have hVm := hVr.alloc (.map #[] 0)
      have m0 := hVm.cell 0
      have m1 := hVm.cell 1
      have m2 := hVm.cell 2
      have m3 := hVm.cell 3
      have m4 := hVm.cell 4
      simp at v0 v1 v2 v3 v4
      simp at m0 m1 m2 m3 m4
      clear hS hb3 hw3 hm hbw hFr
      go_upto_region 10 with fail
      simp only [hm'.out]
      rw [hw3'.out]
      clear hmm v0 v1 v2 v3 v4 hVr m0 m1 m2 m3 m4 hVm
      go_wp2_with fail
      refine hwk.mono ?_
      clear hwk
      rintro e w4 ⟨rfl, hyes, hT4⟩
      have hF4 := At.two hF3 hT4 (by omega) (by omega)
      have hB4 := hBw3.trans (hT4.below (by omega) hBm hB3)
      clear hF3 hBw3 hT4
      cases hc0 : (C == 0)
      · have hc1 : (C != 0) = true := by simpa using hc0
        have hw := Lib.hid (hlw.out (by simpa using hc0))
        have f0 := hF4.cell 0
        have f1 := hF4.cell 1
        have f2 := hF4.cell 2
        have ff := hF4.free
        simp at f0 f1 f2
        clear hyes
        go_wp2
        exact bodyPost_ret (res_flt rfl rfl (put3f hF4)) rfl ⟨ret_f3 hw.out, below3 hB4 hqle1⟩
      · have hc1 : (C != 0) = false := by simpa using hc0
        obtain rfl : C = 0 := by simpa using hc0
        have hw := Lib.hid (hlh.out rfl)
        have hS4 := hyes rfl
        have hhm := home_any v _ _ _ _ t l a w4 hS4.now hS4.trip
        clear hyes hS4 hc0 hc1
        go_wp2_with fail
        refine hhm.mono ?_
        rintro e w5 ⟨rfl, hb5⟩
        have hF5 := hF4.keep hb5 hF4.inside
        have hB5 := hB4.trans (hb5.mono hB4.size)
        clear hb5 hF4 hB4 hhm
        have f0 := hF5.cell 0
        have f1 := hF5.cell 1
        have f2 := hF5.cell 2
        have ff := hF5.free
        simp at f0 f1 f2
        have hNN : Hid (((l.length : Nat) : Int) = Nl) := Lib.hid (by rw [hNl'.out])
        go_wp2
        exact bodyPost_ret (res_flt rfl rfl (put3f hF5)) rfl ⟨ret_f3 (by rw [hw.out, hNN.out]), below3 hB5 hqle1⟩
end Go.Proofs.YteclpblfleakhaaDoor.Feas
namespace Go.Proofs.YteclpblfleakhaaDoor.Feas
open Go.RowKit Go.Sort Go.Proofs.YteclpblfleakhaaDoor.Mem Go.Proofs.YteclpblfleakhaaDoor.Route Go.Proofs.YteclpblfleakhaaDoor.When Go.Proofs.YteclpblfleakhaaDoor.Load Go.Proofs.YteclpblfleakhaaDoor.Place
set_option linter.unusedVariables false
theorem fault_look {v : Vh} {l : List (Int × Int)} {t : List Rq} {f : Int × Int × Int} (h : lookV v l t earlyP = f) (h0 : f.1 ≠ 0) : faultV v l t = f := by
 unfold faultV
 rw [h, if_neg h0]
def WalkTo (v : Vh) (t : List Rq) (l : List (Int × Int)) (k : Nat) : Prop := Std t (l.take k) ∧ walkV v t earlyP [] (sp0 v) l = walkV v t earlyP (l.take k) (leaveV v t (l.take k)) (l.drop k)
theorem WalkTo.start (v : Vh) (t : List Rq) (l : List (Int × Int)) : WalkTo v t l 0 := ⟨Std.nil t, rfl⟩
theorem WalkTo.next {v : Vh} {t : List Rq} {l : List (Int × Int)} {k : Nat} {s : Int × Int} (h : WalkTo v t l k) (hs : l[k]? = some s) (h0 : srvV v t earlyP (l.take k) (leaveV v t (l.take k)) s = 0) : WalkTo v t l (k + 1) := by
 obtain ⟨h1, h2⟩ := h
 obtain ⟨hk, e⟩ := List.getElem?_eq_some_iff.1 hs
 have ht := Route.take_get hs
 refine ⟨by rw [ht]; exact h1.snoc (srv_bits.1 h0).2.1, ?_⟩
 rw [h2, List.drop_eq_getElem_cons hk, e, walkV_go h0, ht, leave_snoc, goE_go]
theorem WalkTo.stop {v : Vh} {t : List Rq} {l : List (Int × Int)} {k : Nat} {s : Int × Int} (h : WalkTo v t l k) (hv : v.chk = 0) (ht : ∀ q ∈ t, q.chk = 0) (hs : l[k]? = some s) (h0 : srvV v t earlyP (l.take k) (leaveV v t (l.take k)) s ≠ 0) :
 faultV v l t = (srvV v t earlyP (l.take k) (leaveV v t (l.take k)) s, 2, (k : Int)) := by
 obtain ⟨hk, e⟩ := List.getElem?_eq_some_iff.1 hs
 have hw : walkV v t earlyP [] (sp0 v) l = (srvV v t earlyP (l.take k) (leaveV v t (l.take k)) s, k, leaveV v t (l.take k)) := by
  rw [h.2, List.drop_eq_getElem_cons hk, e, walkV_stop h0, List.length_take, Nat.min_eq_left (Nat.le_of_lt hk)]
 have hb : badK t < 0 := badK_ok.2 ht
 refine fault_look ?_ h0
 unfold lookV
 rw [if_neg (by omega), if_neg (by omega), hw]
 dsimp only
 rw [if_pos h0]
theorem WalkTo.end {v : Vh} {t : List Rq} {l : List (Int × Int)} (h : WalkTo v t l l.length) (hv : v.chk = 0) (ht : ∀ q ∈ t, q.chk = 0) :
 Std t l ∧ lookV v l t earlyP = (homeE v t l (leaveV v t l), 3, (l.length : Int)) := by
 obtain ⟨h1, h2⟩ := h
 rw [List.take_length] at h1
 rw [List.take_length, List.drop_length] at h2
 have hb : badK t < 0 := badK_ok.2 ht
 refine ⟨h1, ?_⟩
 unfold lookV
 rw [if_neg (by omega), if_neg (by omega), h2, walkV]
 rfl
def mayB (v : Vh) (l : List (Int × Int)) (t : List Rq) : Bool := decide (v.chk = 0) && decide (checkV l = 0) && decide (∀ q ∈ t, q.chk = 0) && decide (∀ s ∈ l, s.1 < (t.length : Int)) && boardB v.cp t [] l
theorem may_iff {v : Vh} {l : List (Int × Int)} {t : List Rq} : mayB v l t = true ↔ v.chk = 0 ∧ checkV l = 0 ∧ (∀ q ∈ t, q.chk = 0) ∧ (∀ s ∈ l, s.1 < (t.length : Int)) ∧ boardB v.cp t [] l = true := by
 simp only [mayB, Bool.and_eq_true, decide_eq_true_eq, and_assoc]
theorem may_no {v : Vh} {l : List (Int × Int)} {t : List Rq} (h : ¬ (v.chk = 0 ∧ checkV l = 0 ∧ (∀ q ∈ t, q.chk = 0) ∧ (∀ s ∈ l, s.1 < (t.length : Int)) ∧ boardB v.cp t [] l = true)) : mayB v l t = false := by
 cases e : mayB v l t
 · rfl
 · exact absurd (may_iff.1 e) h
end Go.Proofs.YteclpblfleakhaaDoor.Feas
namespace Go.Proofs.YteclpblfleakhaaDoor.Feas
open Go.Proofs.YteclpblfleakhaaDoor.Order Go.Proofs.YteclpblfleakhaaDoor.Place Go.Proofs.YteclpblfleakhaaDoor.Route Go.Proofs.YteclpblfleakhaaDoor.When Go.Proofs.YteclpblfleakhaaDoor.Load
set_option linter.unusedVariables false
theorem Std.own {t : List Rq} {l : List (Int × Int)} (h : Std t l) (r : Int) : ofR r l = [] ∨ ofR r l = [(r, 0)] ∨ ofR r l = [(r, 0), (r, 1)] := by
 induction l using snoc_ind with
 | h0 => exact .inl rfl
 | h1 l s ih =>
  obtain ⟨h1, h2⟩ := h.init
  obtain ⟨_, h3, h4⟩ := stB_iff.1 h2
  have i := ih h1
  obtain ⟨s1, s2⟩ := s
  simp only at h3 h4
  rw [ofR_append]
  by_cases hr : s1 = r
  · subst hr
    rw [ofR_cons_same (s := (s1, s2)) rfl]
    unfold nR at h4
    rcases i with i | i | i <;> rw [i] at h4 ⊢ <;> simp at h4 <;> subst h4 <;> simp [ofR]
    omega
  · rw [ofR_cons_other hr]
    rcases i with i | i | i <;> rw [i] <;> simp [ofR]
theorem Std.less {t : List Rq} {l : List (Int × Int)} (h : Std t l) (r : Int) : Std t (woL r l) := by
 induction l using snoc_ind with
 | h0 => exact Std.nil t
 | h1 l s ih =>
  obtain ⟨h1, h2⟩ := h.init
  have i := ih h1
  rw [wo_append]
  by_cases hs : s.1 = r
  · have : woL r [s] = [] := by simp [woL, hs]
    rw [this, List.append_nil]
    exact i
  · have : woL r [s] = [s] := by simp [woL, hs]
    rw [this]
    refine i.snoc ?_
    obtain ⟨a, b, c⟩ := stB_iff.1 h2
    refine stB_iff.2 ⟨a, b, ?_⟩
    unfold nR at c ⊢
    rw [ofR_wo hs]
    exact c
theorem acc_one {t : List Rq} (r : Int) : acc t [(r, 0)] = ldR t r ∧ acc t [(r, 0), (r, 1)] = 0 := by
 constructor <;> simp [acc, stN, sg]
 omega
theorem Std.acc_nonneg {t : List Rq} (ht : ∀ q ∈ t, q.chk = 0) : ∀ (n : Nat) {l : List (Int × Int)}, l.length ≤ n → Std t l → 0 ≤ acc t l
 | 0, l, hn, _ => by
  obtain rfl : l = [] := List.eq_nil_of_length_eq_zero (by omega)
  exact Int.le_refl _
 | n + 1, [], _, _ => Int.le_refl _
 | n + 1, s :: l, hn, h => by
  have e := acc_wo t s.1 (s :: l)
  have h2 := Std.acc_nonneg ht n (l := woL s.1 (s :: l)) (by rw [wo_cons_own rfl]; have := wo_length s.1 l; simp at hn; omega) (h.less s.1)
  have h3 : 0 ≤ acc t (ofR s.1 (s :: l)) := by
   rcases h.own s.1 with i | i | i <;> rw [i]
   · exact Int.le_refl _
   · rw [(acc_one s.1).1]; exact ld_nonneg ht s.1
   · rw [(acc_one s.1).2]; exact Int.le_refl _
  omega
theorem Std.route {t : List Rq} (ht : ∀ q ∈ t, q.chk = 0) {l : List (Int × Int)} (h : Std t l) (ha : acc t l ≤ 0) : isR l = true := by
 refine isR_iff.2 fun s hs => ?_
 have hi := h.ins s hs
 refine ⟨hi.1, ?_⟩
 rcases h.own s.1 with i | i | i
 · have := mem_ofR.2 ⟨hs, rfl⟩
   rw [i] at this
   cases this
 · exfalso
   have e := acc_wo t s.1 l
   have h2 := Std.acc_nonneg ht l.length (l := woL s.1 l) (wo_length s.1 l) (h.less s.1)
   rw [i, (acc_one s.1).1] at e
   have hq : t[s.1.toNat]? = some (t[s.1.toNat]'(by omega)) := List.getElem?_eq_getElem _
   have := chk_ld ht _ (List.getElem_mem (h := (by omega : s.1.toNat < t.length)))
   rw [ldR_get hq] at e
   omega
 · exact i
theorem walk_std {v : Vh} {t : List Rq} {P : Pace} : ∀ {l pre : List (Int × Int)} {a : Sp}, Std t pre → pre.length ≤ 16 → (walkV v t P pre a l).1 = 0 → Std t (pre ++ l) ∧ (pre ++ l).length ≤ 16 ∧ boardB v.cp t pre l = true
 | [], pre, a, h, hn, _ => by rw [List.append_nil]; exact ⟨h, hn, rfl⟩
 | s :: l, pre, a, h, hn, h0 => by
  by_cases hs : srvV v t P pre a s = 0
  · obtain ⟨b1, b2, b3, b4⟩ := srv_bits.1 hs
    rw [walkV_go hs] at h0
    obtain ⟨i1, i2, i3⟩ := walk_std (h.snoc b2) (by simp; omega) h0
    rw [show pre ++ s :: l = (pre ++ [s]) ++ l by simp]
    exact ⟨i1, i2, by rw [boardB, i3, decide_eq_true b3]; rfl⟩
  · rw [walkV_stop hs] at h0
    exact absurd h0 hs
theorem look_may {v : Vh} {l : List (Int × Int)} {t : List Rq} {P : Pace} (h : (lookV v l t P).1 = 0) : mayB v l t = true := by
 unfold lookV at h
 split at h
 · simp at h
 rename_i hv
 split at h
 · simp at h
 rename_i hb
 dsimp only at h
 split at h
 · rename_i hw; simp at h; exact absurd h hw
 rename_i hw
 have ht := badK_ok.1 (show badK t < 0 by omega)
 obtain ⟨h1, h2, h3⟩ := walk_std (Std.nil t) (by simp) (show (walkV v t P [] (sp0 v) l).1 = 0 by omega)
 rw [List.nil_append] at h1 h2
 have ha : acc t l ≤ 0 := by
  unfold homeE at h
  split at h
  · simp at h
  · omega
 have hR := h1.route ht ha
 refine may_iff.2 ⟨by omega, ?_, ht, fun s hs => (h1.ins s hs).2, h3⟩
 unfold checkV
 rw [if_neg (by omega), if_pos hR]
theorem may_dr {v : Vh} {l : List (Int × Int)} {t : List Rq} (h : mayB v l t = true) : v.chk = 0 ∧ (∀ q ∈ t, q.chk = 0) ∧ isR l = true ∧ l.length ≤ 16 ∧ InR t l ∧ boardB v.cp t [] l = true := by
 obtain ⟨h1, h2, h3, h4, h5⟩ := may_iff.1 h
 obtain ⟨h6, h7⟩ := check_isR h2
 exact ⟨h1, h3, h6, h7, h4, h5⟩
def homeB (v : Vh) : Option Sp → Bool
 | some b => decide (arV b (homeV v) ≤ v.en)
 | none => false
def KeptTo (v : Vh) (t : List Rq) (l : List (Int × Int)) (ts : List Tm) (k : Nat) (S : Sp) : Prop := keptL (sp0 v) (visL t l) ts = keptL S (visL t (l.drop k)) (ts.drop k)
theorem KeptTo.next {v : Vh} {t : List Rq} {l : List (Int × Int)} {ts : List Tm} {k : Nat} {S : Sp} {s : Int × Int} {y : Tm} {x : Vi} (h : KeptTo v t l ts k S) (hs : l[k]? = some s) (hy : ts[k]? = some y) (hx : visV t s = x) (hk : keptB x (arV S x) y = true) : KeptTo v t l ts (k + 1) ⟨y.lv, x.px, x.py⟩ := by
 obtain ⟨h1, e1⟩ := List.getElem?_eq_some_iff.1 hs
 obtain ⟨h2, e2⟩ := List.getElem?_eq_some_iff.1 hy
 unfold KeptTo at h ⊢
 rw [h, List.drop_eq_getElem_cons h1, List.drop_eq_getElem_cons h2, e1, e2]
 show keptL S (visV t s :: visL t (l.drop (k + 1))) _ = _
 rw [keptL, hx, if_pos hk]
theorem KeptTo.no {v : Vh} {t : List Rq} {l : List (Int × Int)} {ts : List Tm} {k : Nat} {S : Sp} {s : Int × Int} {y : Tm} {x : Vi} (h : KeptTo v t l ts k S) (hs : l[k]? = some s) (hy : ts[k]? = some y) (hx : visV t s = x) (hk : keptB x (arV S x) y = false) : homeB v (keptL (sp0 v) (visL t l) ts) = false := by
 obtain ⟨h1, e1⟩ := List.getElem?_eq_some_iff.1 hs
 obtain ⟨h2, e2⟩ := List.getElem?_eq_some_iff.1 hy
 unfold KeptTo at h
 rw [h, List.drop_eq_getElem_cons h1, List.drop_eq_getElem_cons h2, e1, e2]
 show homeB v (keptL S (visV t s :: visL t (l.drop (k + 1))) _) = _
 rw [keptL, hx, hk]
 rfl
theorem KeptTo.end {v : Vh} {t : List Rq} {l : List (Int × Int)} {ts : List Tm} {S : Sp} (h : KeptTo v t l ts l.length S) : homeB v (keptL (sp0 v) (visL t l) ts) = decide (arV S (homeV v) ≤ v.en) := by
 unfold KeptTo at h
 rw [h, List.drop_length]
 rfl
theorem InR.vis {t : List Rq} {l : List (Int × Int)} (hR : isR l = true) (h : InR t l) (ht : ∀ q ∈ t, q.chk = 0) : ∀ s ∈ l, ∃ x, visO t s = some x ∧ OkVi x := by
 intro s hs
 obtain ⟨p, q, e⟩ := List.append_of_mem hs
 obtain ⟨x, hx, _⟩ := stB_vis (route_stB hR h e)
 exact ⟨x, hx, vis_ok ht hx⟩
end Go.Proofs.YteclpblfleakhaaDoor.Feas

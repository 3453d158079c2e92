import Derived.Test.YteclpblfleakhaaDoorPkRouteRefReq
import Derived.Test.YteclpblfleakhaaDoorPkPlaceCalls

namespace Go.Proofs.YteclpblfleakhaaDoor.When
open Go.RowKit Go.Sort Go.Proofs.YteclpblfleakhaaDoor.Mem Go.Proofs.YteclpblfleakhaaDoor.Route Go.Proofs.YteclpblfleakhaaDoor.Place Go.Proofs.YteclpblfleakhaaDoor.Window Go.Proofs.YteclpblfleakhaaDoor.Order
set_option linter.unusedVariables false
theorem res_tm {fn : Func} {p c : Tmp} (h : fn.results = #[.cell p 86, .tmp c]) {tmps : Array Value} {w : World} {g : Nat} {x0 x1 x2 b : Value} (hp : tmps.getD p undef = .pointer (some ⟨g, 0, none⟩)) (hc : tmps.getD c undef = b)
 (c0 : w.cell? ⟨g, 0, none⟩ = some x0) (c1 : w.cell? ⟨g, 1, none⟩ = some x1) (c2 : w.cell? ⟨g, 2, none⟩ = some x2) : (results fn tmps).run Tryd.prog w = .ok (.tuple #[.agg #[x0, x1, x2], b]) w := by
 have hp' : tmps[p]?.getD undef = .pointer (some ⟨g, 0, none⟩) := by simpa using hp
 have hc' : tmps[c]?.getD undef = b := by simpa using hc
 simp only [results, h]
 go_simp
theorem ret_tm {a0 a1 a2 b0 b1 b2 : Int} {c d : Bool} (h0 : a0 = b0) (h1 : a1 = b1) (h2 : a2 = b2) (h : c = d) :
 Ending.returned (.tuple #[.agg #[.int .i64 a0, .int .i64 a1, .int .i64 a2], .bool c]) = .returned (.tuple #[.agg #[.int .i64 b0, .int .i64 b1, .int .i64 b2], .bool d]) := by rw [h0, h1, h2, h]
theorem grown_set {w w' : World} {g : Nat} (h : w.grownBy w' (some g)) (i : Nat) (v : Value) : w.grownBy (w'.setCell ⟨g, i, none⟩ v) (some g) :=
 ⟨h.os, h.tape, h.output, by simpa using h.size, fun k hk hne => (Below.heap_setCell _ _ _ _ (fun e => hne (by rw [e]))).trans (h.block k hk hne)⟩
theorem grown_below {w w' v : World} {g : Nat} (h : w.grownBy w' (some g)) (hb : Below w'.heap.size w' v) : w.grownBy v (some g) :=
 ⟨hb.os.trans h.os, hb.tape.trans h.tape, hb.output.trans h.output, Nat.le_trans h.size hb.size, fun k hk hne => (hb.block k (Nat.lt_of_lt_of_le hk h.size)).trans (h.block k hk hne)⟩
theorem grown_new {w w' : World} {g : Nat} (h : w.grownBy w' (some g)) {k : Nat} (hk : w.heap.size ≤ k) (i : Nat) (v : Value) : w.grownBy (w'.setCell ⟨k, i, none⟩ v) (some g) :=
 ⟨h.os, h.tape, h.output, by simpa using h.size, fun j hj hne => (Below.heap_setCell _ _ _ _ (fun e => by have : j = k := e; omega)).trans (h.block j hj hne)⟩
set_option maxHeartbeats 2000000 in
theorem goOn_any (now ax ay o1 o2 px py we wl sv D A B : Int) (b : Bool) (g : Nat) (w : World) (hP : At w g 88 #[.int .i64 o1, .int .i64 o2, .int .i64 now, .int .i64 ax, .int .i64 ay])
 (hD : distV (ax, ay) (px, py) = D) (hA : now + D = A) (hb : waitB we wl A = b) (hB : waitV we wl A = B) (hA1 : 0 ≤ A) (hA2 : A ≤ 1000000000) (hB1 : 0 ≤ B + sv) (hB2 : B + sv ≤ 1000000000) :
 Calls Tryd.prog 30 #[.pointer (some ⟨g, 0, none⟩), .agg #[.int .i64 px, .int .i64 py, .int .i64 we, .int .i64 wl, .int .i64 sv]] w fun e w' => e = .returned (.tuple #[.agg #[.int .i64 A, .int .i64 B, .int .i64 (B + sv)], .bool b]) ∧
  At w' g 88 #[.int .i64 A, .int .i64 B, .int .i64 (B + sv), .int .i64 px, .int .i64 py] ∧ w.grownBy w' (some g) := by
 have hg := hP.inside
 obtain ⟨w0, hw0⟩ : ∃ w0, (w.alloc (.cells #[.int .i64 px, .int .i64 py, .int .i64 we, .int .i64 wl, .int .i64 sv] 122)).alloc (.cells #[.int .i64 0, .int .i64 0, .int .i64 0] 86) = w0 := ⟨_, rfl⟩
 have hP0 : At w0 g 88 #[.int .i64 o1, .int .i64 o2, .int .i64 now, .int .i64 ax, .int .i64 ay] := by rw [← hw0]; exact (hP.alloc _).alloc _
 have hX0 : At w0 w.heap.size 122 #[.int .i64 px, .int .i64 py, .int .i64 we, .int .i64 wl, .int .i64 sv] := by rw [← hw0]; exact (At.new _ _ _).alloc _
 have hR0 : At w0 (w.heap.size + 1) 86 #[.int .i64 0, .int .i64 0, .int .i64 0] := by rw [← hw0]; exact At.new_ _ _ _ (by simp)
 have hb0 : Below w.heap.size w w0 := by rw [← hw0]; exact ((Below.refl _ _).alloc (Nat.le_refl _) _).alloc (by simp) _
 have cD : ∀ w, Calls Tryd.prog 48 #[.agg #[.int .i64 ax, .int .i64 ay], .agg #[.int .i64 px, .int .i64 py]] w fun e w' => e = .returned (.int .i64 D) ∧ Below w.heap.size w w' := fun w => by rw [← hD]; exact Dist_any _ _ _ _ w
 have cW : ∀ w, Calls Tryd.prog 49 #[.agg #[.int .i64 we, .int .i64 wl], .int .i64 A] w fun e w' => e = .returned (.tuple #[.int .i64 B, .bool b]) ∧ Below w.heap.size w w' := fun w => by rw [← hB, ← hb]; exact Wait_any _ _ _ w
 have hw0' := Lib.hid hw0
 have hA' := Lib.hid hA
 have hA3 : 0 ≤ now + D := by omega
 have hA4 : now + D ≤ 1000000000 := by omega
 clear hP hD hb hB hw0 hA
 go_enter Tryd.func30, Tryd.ntmps30
 go_wp2_with fail
 rw [hw0'.out]
 have p2 := hP0.cell 2
 have p3 := hP0.cell 3
 have p4 := hP0.cell 4
 have x0 := hX0.cell 0
 have x1 := hX0.cell 1
 simp at p2 p3 p4 x0 x1
 have kp2 := cell_regrown p2
 have kp3 := cell_regrown p3
 have kp4 := cell_regrown p4
 have kx0 := cell_regrown x0
 have kx1 := cell_regrown x1
 have kD := fun d os => Calls.regrown_of (cD (grow (redrawn w0 d) os))
 clear cD
 refine wp_region_quiet_below (by kernel_rfl) (by kernel_rfl) ?_
 repeat (go_big_quiet_step (first | with_reducible exact kD _ _))
 refine wpQuiet_nil ?_
 intro _ hw'
 obtain ⟨⟨dq, osq⟩, hw''⟩ := hw'
 subst hw''
 have hP := hP0.keep (below_regrown w0 dq osq) hP0.inside
 have hX := hX0.keep (below_regrown w0 dq osq) hX0.inside
 have hR := hR0.keep (below_regrown w0 dq osq) hR0.inside
 have hE := hb0.trans ((below_regrown w0 dq osq).mono hb0.size)
 generalize grow (redrawn w0 dq) osq = w2 at *
 rw [hA'.out]
 clear kD kx0 kx1 kp2 kp3 kp4 x0 x1 p2 p3 p4 hX0 hR0 hP0 hb0 hw0' hA' hA3 hA4
 have x2 := hX.cell 2
 have x3 := hX.cell 3
 simp at x2 x3
 go_wp2_with fail
 refine (cW _).mono ?_
 rintro e w3 ⟨rfl, hb3⟩
 have hP3 := hP.keep hb3 hP.inside
 have hX3 := hX.keep hb3 hX.inside
 have hR3 := hR.keep hb3 hR.inside
 have hE3 := hE.trans (hb3.mono hE.size)
 have hg3 := hP3.inside
 have hs3 : w.heap.size + 1 < w3.heap.size := hR3.inside
 clear hb3 hP hX hR hE cW x2 x3
 have x0 := hX3.cell 0
 have x1 := hX3.cell 1
 have x4 := hX3.cell 4
 have xf := hX3.free
 have p0 := hP3.cell 0
 have p1 := hP3.cell 1
 have p2 := hP3.cell 2
 have p3 := hP3.cell 3
 have p4 := hP3.cell 4
 have pf := hP3.free
 have r0 := hR3.cell 0
 have r1 := hR3.cell 1
 have r2 := hR3.cell 2
 have rf := hR3.free
 simp at p0 p1 p2 p3 p4 x0 x1 x4 r0 r1 r2
 have hG : w.grownBy w3 (some g) := grown_below ⟨rfl, rfl, rfl, Nat.le_refl _, fun _ _ _ => rfl⟩ hE3
 have hPP := Lib.hid hP3
 have hGG := Lib.hid hG
 clear hP3 hX3 hR3 hE3 hG
 go_wp2
 refine bodyPost_ret (res_tm rfl rfl rfl (x0 := .int .i64 A) (x1 := .int .i64 B) (x2 := .int .i64 (B + sv)) (by go_simp) (by go_simp) (by go_simp)) rfl ?_
 refine ⟨ret_tm rfl rfl rfl rfl, ?_, ?_⟩
 · exact (((put5 hPP.out).far (by omega) _ _).far (by omega) _ _).far (by omega) _ _
 · exact grown_new (grown_new (grown_new (grown_set (grown_set (grown_set (grown_set (grown_set hGG.out _ _) _ _) _ _) _ _) _ _) (by simp) _ _) (by simp) _ _) (by simp) _ _
theorem wrong_v {v : Vh} {l : List (Int × Int)} {t : List Rq} (h : v.chk ≠ 0) : wrongV v l t = 2 := by simp [wrongV, h]
theorem wrong_q {v : Vh} {l : List (Int × Int)} {t : List Rq} {k : Nat} {q : Rq} (hk : t[k]? = some q) (h : q.chk ≠ 0) : wrongV v l t = 2 := by
 unfold wrongV
 split
 · rfl
 · rw [if_pos]
   rw [List.any_eq_true]
   exact ⟨q, List.mem_of_getElem? hk, by simpa using h⟩
theorem wrong_r {v : Vh} {l : List (Int × Int)} {t : List Rq} (h1 : v.chk = 0) (h2 : ∀ (k : Nat) (q : Rq), t[k]? = some q → q.chk = 0) (h3 : Route.checkV l ≠ 0) : wrongV v l t = 8 := by
 unfold wrongV
 rw [if_neg (by omega), if_neg, if_pos h3]
 rw [List.any_eq_true]
 rintro ⟨q, hq, h⟩
 obtain ⟨k, hk⟩ := List.getElem?_of_mem hq
 exact absurd (h2 k q hk) (by simpa using h)
theorem wrong_s {v : Vh} {l : List (Int × Int)} {t : List Rq} (h1 : v.chk = 0) (h2 : ∀ (k : Nat) (q : Rq), t[k]? = some q → q.chk = 0) {k : Nat} {s : Int × Int} (hk : l[k]? = some s) (h : visB t s = false) : wrongV v l t = 8 := by
 by_cases h3 : Route.checkV l ≠ 0
 · exact wrong_r h1 h2 h3
 unfold wrongV
 rw [if_neg (by omega), if_neg, if_neg h3, if_pos]
 · rw [List.any_eq_true]
   exact ⟨s, List.mem_of_getElem? hk, by rw [h]; rfl⟩
 rw [List.any_eq_true]
 rintro ⟨q, hq, h⟩
 obtain ⟨k, hk⟩ := List.getElem?_of_mem hq
 exact absurd (h2 k q hk) (by simpa using h)
theorem wrong_no {v : Vh} {l : List (Int × Int)} {t : List Rq} (h1 : v.chk = 0) (h2 : ∀ (k : Nat) (q : Rq), t[k]? = some q → q.chk = 0) (h3 : Route.checkV l = 0) (h4 : ∀ (k : Nat) (s : Int × Int), l[k]? = some s → visB t s = true) : wrongV v l t = 0 := by
 unfold wrongV
 rw [if_neg (by omega), if_neg, if_neg (by omega), if_neg]
 · rw [List.any_eq_true]
   rintro ⟨s, hs, h⟩
   obtain ⟨k, hk⟩ := List.getElem?_of_mem hs
   rw [h4 k s hk] at h
   cases h
 rw [List.any_eq_true]
 rintro ⟨q, hq, h⟩
 obtain ⟨k, hk⟩ := List.getElem?_of_mem hq
 exact absurd (h2 k q hk) (by simpa using h)
theorem reqCheck (q : Rq) (w : World) : Calls Tryd.prog 40 #[.agg #[.int .i64 q.fx, .int .i64 q.fy, .int .i64 q.tx, .int .i64 q.ty, .int .i64 q.pe, .int .i64 q.pl, .int .i64 q.de, .int .i64 q.dl, .int .i64 q.ld, .int .i64 q.sv]] w
 fun e w' => e = .returned (.int .i64 q.chk) ∧ Below w.heap.size w w' := Order.Check_any _ _ _ _ _ _ _ _ _ _ w
theorem vehCheck (v : Vh) (w : World) : Calls Tryd.prog 39 #[.agg #[.int .i64 v.hx, .int .i64 v.hy, .int .i64 v.cp, .int .i64 v.st, .int .i64 v.en]] w
 fun e w' => e = .returned (.int .i64 v.chk) ∧ Below w.heap.size w w' := Order.Vehicle_any _ _ _ _ _ w
set_option maxRecDepth 100000 in
set_option maxHeartbeats 4000000 in
theorem check_any (v : Vh) (vl vt : Value) (l : List (Int × Int)) (t : List Rq) (hl : l.length ≤ 1000000) (hnum : Nums l) (w : World) (hL : Row w.heap.size w vl l) (hT : Rqs w.heap.size w vt t) :
 Calls Tryd.prog 27 #[.agg #[.int .i64 v.hx, .int .i64 v.hy, .int .i64 v.cp, .int .i64 v.st, .int .i64 v.en], vl, vt] w fun e w' => e = .returned (.int .i64 (wrongV v l t)) ∧ Below w.heap.size w w' := by
 have hR := fun w' (hb : Below w.heap.size w w') => Route.Check_any vl l hl hnum w' (hL.on hb)
 have hv := vehCheck v
 have hP : At (w.alloc (.cells #[.int .i64 v.hx, .int .i64 v.hy, .int .i64 v.cp, .int .i64 v.st, .int .i64 v.en] 47)) w.heap.size 47 #[.int .i64 v.hx, .int .i64 v.hy, .int .i64 v.cp, .int .i64 v.st, .int .i64 v.en] := At.new _ _ _
 have hb0 : Below w.heap.size w (w.alloc (.cells #[.int .i64 v.hx, .int .i64 v.hy, .int .i64 v.cp, .int .i64 v.st, .int .i64 v.en] 47)) := (Below.refl _ _).alloc (Nat.le_refl _) _
 obtain ⟨xl, Nl, capl, rfl, hNl, hl0, hlc1, hlc2⟩ := hL.opened
 obtain ⟨xt, Nt, capt, rfl, hNt0, htc1, htc2, ht0⟩ := hT.opened
 have hNt := Lib.hid hNt0
 clear hNt0 ht0
 unfold maxLen at htc2 hlc2
 obtain ⟨E, hE⟩ : ∃ E, wrongV v l t = E := ⟨_, rfl⟩
 obtain ⟨C, hC⟩ : ∃ C, Route.checkV l = C := ⟨_, rfl⟩
 obtain ⟨V, hV⟩ : ∃ V, v.chk = V := ⟨_, rfl⟩
 rw [hE]
 simp only [hC] at hR
 simp only [hV] at hv
 have hL' := Lib.hid hL
 have hT' := Lib.hid hT
 have hE' := Lib.hid hE
 have hC' := Lib.hid hC
 have hV' := Lib.hid hV
 have hR' := Lib.hid hR
 clear hl hnum hL hT hE hC hV hR
 go_enter Tryd.func27, Tryd.ntmps27
 go_wp2_with fail
 refine (hv _).mono ?_
 rintro e w1 ⟨rfl, hb1⟩
 have hB := hb0.trans (hb1.mono hb0.size)
 clear hb0 hb1 hP hv
 cases hv0 : (V == 0)
 · have hv1 : (V != 0) = true := by simpa using hv0
   have hw := Lib.hid (wrong_v (l := l) (t := t) (show v.chk ≠ 0 by rw [hV'.out]; simpa using hv0))
   go_wp2
   go_ret
   exact ⟨Route.ret_int (by rw [← hE'.out, hw.out]), hB⟩
 · have hv1 : (V != 0) = false := by simpa using hv0
   have hz : Hid (v.chk = 0) := Lib.hid (by rw [hV'.out]; simpa using hv0)
   go_wp2
   go_loopw [18] (fun i wr => ∃ k : Nat, i = .int .i64 k ∧ k ≤ Nt ∧ (∀ (j : Nat) (q : Rq), j < k → t[j]? = some q → q.chk = 0) ∧ Below w.heap.size w wr) (fun i _ => Nt - (intOf i).toNat)
   case atStart => exact ⟨0, rfl, Nat.zero_le _, fun j q hj => by omega, hB⟩
   case round =>
    obtain ⟨k, rfl, hk, hall, hbw⟩ := hrel
    clear hB
    by_cases hlt : k < Nt
    · obtain ⟨q, hq⟩ : ∃ q, t[k]? = some q := ⟨t[k]'(by rw [hNt.out]; exact hlt), List.getElem?_eq_getElem _⟩
      obtain ⟨g, o, rfl, hg, c0, c1, c2, c3, c4, c5, c6, c7, c8, c9⟩ := Rqs.at (hT'.out.keep hbw (Nat.le_refl _)) hq
      have hq' := Lib.hid hq
      have hall' := Lib.hid hall
      clear hq hall
      have hbA := hbw.alloc hbw.size (.cells #[.int .i64 q.fx, .int .i64 q.fy, .int .i64 q.tx, .int .i64 q.ty, .int .i64 q.pe, .int .i64 q.pl, .int .i64 q.de, .int .i64 q.dl, .int .i64 q.ld, .int .i64 q.sv] 68)
      go_wp2_with fail
      refine (reqCheck q _).mono ?_
      rintro e w3 ⟨rfl, hb3⟩
      have hB3 := hbA.trans (hb3.mono hbA.size)
      clear hb3 hbA hbw c0 c1 c2 c3 c4 c5 c6 c7 c8 c9
      obtain ⟨Q, hQ⟩ : ∃ Q, q.chk = Q := ⟨_, rfl⟩
      rw [hQ]
      have hQ' := Lib.hid hQ
      clear hQ
      cases hq0 : (Q == 0)
      · have hq1 : (Q != 0) = true := by simpa using hq0
        have hw := Lib.hid (wrong_q (v := v) (l := l) hq'.out (by rw [hQ'.out]; simpa using hq0))
        go_wp2
        go_ret
        exact ⟨Route.ret_int (by rw [← hE'.out, hw.out]), hB3⟩
      · have hq1 : (Q != 0) = false := by simpa using hq0
        have hz2 : Hid (q.chk = 0) := Lib.hid (by rw [hQ'.out]; simpa using hq0)
        go_wp2
        go_roundw
        case rel =>
         refine ⟨k + 1, by go_num, hlt, fun j r hj hr => ?_, hB3⟩
         rcases Nat.lt_or_ge j k with h | h
         · exact hall'.out j r h hr
         · obtain rfl : j = k := by omega
           rw [hq'.out] at hr
           cases hr
           exact hz2.out
        case measure => simp [intOf]; omega
    · obtain rfl : k = Nt := by omega
      have hall' : Hid (∀ (j : Nat) (q : Rq), t[j]? = some q → q.chk = 0) := Lib.hid (fun j q hq => hall j q (by have := (List.getElem?_eq_some_iff.1 hq).1; rw [hNt.out] at this; omega) hq)
      clear hall
      go_wp2_with fail
      refine (hR'.out _ hbw).mono ?_
      rintro e w3 ⟨rfl, hb3⟩
      have hB3 := hbw.trans (hb3.mono hbw.size)
      clear hb3 hbw
      cases hc0 : (C == 0)
      · have hc1 : (C != 0) = true := by simpa using hc0
        have hw := Lib.hid (wrong_r (l := l) hz.out hall'.out (by rw [hC'.out]; simpa using hc0))
        go_wp2
        go_ret
        exact ⟨Route.ret_int (by rw [← hE'.out, hw.out]), hB3⟩
      · have hc1 : (C != 0) = false := by simpa using hc0
        have hz3 : Hid (Route.checkV l = 0) := Lib.hid (by rw [hC'.out]; simpa using hc0)
        go_wp2
        go_loopw [31] (fun i wr => ∃ k : Nat, i = .int .i64 k ∧ k ≤ Nl ∧ (∀ (j : Nat) (s : Int × Int), j < k → l[j]? = some s → visB t s = true) ∧ Below w.heap.size w wr) (fun i _ => Nl - (intOf i).toNat)
        case atStart => exact ⟨0, rfl, Nat.zero_le _, fun j q hj => by omega, hB3⟩
        case round =>
         clear hB3
         obtain ⟨k2, rfl, hk2, hal2, hbw⟩ := hrel
         by_cases hlt : k2 < Nl
         · obtain ⟨s, hs⟩ : ∃ s, l[k2]? = some s := ⟨l[k2]'(by rw [hNl.out]; exact hlt), List.getElem?_eq_getElem _⟩
           obtain ⟨g, o, rfl, hg, c0, c1⟩ := Row.stop (hL'.out.keep hbw (Nat.le_refl _)) hs
           have hs' := Lib.hid hs
           have hal' := Lib.hid hal2
           clear hs hal2
           have hbA := hbw.alloc hbw.size (.cells #[.int .i64 s.1, .int .i64 s.2] 61)
           have hvi := visitOf_any s.1 s.2 _ t _ (hT'.out.on hbA)
           go_wp2_with fail
           refine hvi.mono ?_
           clear hvi
           rintro e w4 ⟨rfl, hb4⟩
           have hB4 := hbA.trans (hb4.mono hbA.size)
           clear hb4 hbA hbw c0 c1
           cases hvb : visB t (s.1, s.2)
           · have hw := Lib.hid (wrong_s hz.out hall'.out hs'.out hvb)
             have hB5 := hB4.alloc hB4.size (.cells #[.int .i64 (visV t (s.1, s.2)).px, .int .i64 (visV t (s.1, s.2)).py, .int .i64 (visV t (s.1, s.2)).we, .int .i64 (visV t (s.1, s.2)).wl, .int .i64 (visV t (s.1, s.2)).sv] 122)
             go_wp2
             go_ret
             exact ⟨Route.ret_int (by rw [← hE'.out, hw.out]), hB5⟩
           · have hvb' := Lib.hid hvb
             have hB5 := hB4.alloc hB4.size (.cells #[.int .i64 (visV t (s.1, s.2)).px, .int .i64 (visV t (s.1, s.2)).py, .int .i64 (visV t (s.1, s.2)).we, .int .i64 (visV t (s.1, s.2)).wl, .int .i64 (visV t (s.1, s.2)).sv] 122)
             clear hvb
             go_wp2
             go_roundw
             case rel =>
              refine ⟨k2 + 1, by go_num, hlt, fun j r hj hr => ?_, hB5⟩
              rcases Nat.lt_or_ge j k2 with h | h
              · exact hal'.out j r h hr
              · obtain rfl : j = k2 := by omega
                rw [hs'.out] at hr
                cases hr
                exact hvb'.out
             case measure => simp [intOf]; omega
         · obtain rfl : k2 = Nl := by omega
           have hw := Lib.hid (wrong_no (l := l) hz.out hall'.out hz3.out (fun j s hs => hal2 j s (by have := (List.getElem?_eq_some_iff.1 hs).1; rw [hNl.out] at this; omega) hs))
           clear hal2
           go_wp2
           go_ret
           exact ⟨Route.ret_int (by rw [← hE'.out, hw.out]), hbw⟩
end Go.Proofs.YteclpblfleakhaaDoor.When
namespace Go.Proofs.YteclpblfleakhaaDoor.Up
open Go.RowKit
set_option linter.unusedVariables false
structure Held (n : Nat) (W W' : World) : Prop where
 size : W.heap.size ≤ W'.heap.size
 a : W'.heap[n]? = W.heap[n]?
 b : W'.heap[n + 1]? = W.heap[n + 1]?
theorem Held.refl (n : Nat) (W : World) : Held n W W := ⟨Nat.le_refl _, rfl, rfl⟩
theorem Held.trans {n : Nat} {X Y Z : World} (h : Held n X Y) (k : Held n Y Z) : Held n X Z := ⟨Nat.le_trans h.size k.size, k.a.trans h.a, k.b.trans h.b⟩
theorem Held.grown {n : Nat} {W W' : World} {row : Option Nat} (h : W.grownBy W' row) (hn : n + 1 < W.heap.size) (hr : ∀ r, row = some r → r ≠ n ∧ r ≠ n + 1) : Held n W W' :=
 ⟨h.size, h.block n (by omega) (fun e => (hr n e.symm).1 rfl), h.block (n + 1) hn (fun e => (hr (n + 1) e.symm).2 rfl)⟩
theorem Held.alloc {n : Nat} (W : World) (o : Obj) (hn : n + 1 < W.heap.size) : Held n W (W.alloc o) := .grown (World.grownBy_alloc W o none) hn (fun r e => by cases e)
theorem Held.setCell {n : Nat} (W : World) {b i : Nat} (h1 : b ≠ n) (h2 : b ≠ n + 1) (v : Value) : Held n W (W.setCell ⟨b, i, none⟩ v) :=
 ⟨by simp, Below.heap_setCell W _ v n (by simp; omega), Below.heap_setCell W _ v (n + 1) (by simp; omega)⟩
def Runs2 {α : Type} (P : Program) (gf : Nat) (fst lb : Array Value) (encs : α → Array Value) (good : α → Bool) (xs : List α) (B : Nat) (I : List α → World → Prop) : Prop :=
 ∀ (l : Nat) (J : List α → World → Prop) (W : World), W.heap.size = B → J [] W → Old B J → (∀ s A, J s A → I s A) →
  (∀ (m : Nat) pre x A, (∃ rest, xs = pre ++ x :: rest) → J pre A → (∀ y ∈ pre, good y = true) → B ≤ A.heap.size → YieldAt Fence.wide m P l (encs x) A fun e A' => e = .returned (.bool (good x)) ∧ J (pre ++ [x]) A' ∧ A.heap.size ≤ A'.heap.size) →
  CallsIn Fence.wide 2 P gf (fst ++ #[.func (.yield l) #[] #[]] ++ lb) W fun e A' => (∃ v, e = .returned v) ∧ J (upTo good xs) A'
def GoOn2 {α : Type} (P : Program) (l : Nat) (body : Code) (n : Nat) (I : List α → World → Prop) (good : α → Bool) (pre : List α) (x : α) (W : World) (a' : Act) (Wa : World) : Prop :=
 W.grownBy Wa none ∧ ∀ V, V.heap.size = Wa.heap.size → (∀ k, k ≠ n + 1 → V.heap[k]? = Wa.heap[k]?) → I pre V →
  body.wpIn (Fence.wide.inRound l) 1 P (upPost (good x) fun W' => I (pre ++ [x]) W' ∧ Held n V W') a' V
set_option maxHeartbeats 1000000 in
theorem rangesRound2 {α : Type} {P : Program} {g : Operand} {ps : Array Tmp} {assign body : Code} {Q : Exit → Act → World → Prop} {a : Act} {w : World}
 {gf : Nat} {fst lb : Array Value} (hg : a.eval g = .func (.func gf) fst lb) (eg : ∀ args w, (callFunc gf args).run P w = .ok (.enter gf args) w)
 {encs : α → Array Value} {good : α → Bool} {xs : List α} (hps : ∀ x, (encs x).size = ps.size) (I : List α → World → Prop) (hI : Old w.heap.size I) (h0 : I [] w) (hseq : Runs2 P gf fst lb encs good xs (w.heap.size + 2) I)
 (hround : ∀ (l : Nat) (pre : List α) (x : α) (W : World), (∃ rest, xs = pre ++ x :: rest) → w.heap.size + 2 ≤ W.heap.size → I pre W → (∀ y ∈ pre, good y = true) →
  assign.wpIn (Fence.wide.inRound l) 1 P (Exit.then (GoOn2 P l body w.heap.size I good pre x W) (fun _ _ _ => False)) { tmps := (ps.zip (encs x)).foldl (fun t (p, v) => t.setIfInBounds p v) a.tmps, defers := [] } W)
 (hdone : ∀ (W : World), w.heap.size + 2 ≤ W.heap.size → I xs W → (∀ y ∈ xs, good y = true) → W.heap[w.heap.size]? = some (.deferred (some [])) → Q .normal { a with defers := { target := .collected w.heap.size, args := #[] } :: a.defers } W)
 (hstop : ∀ (W : World), w.heap.size + 2 ≤ W.heap.size → I (upTo good xs) W → ¬ (∀ y ∈ xs, good y = true) → W.heap[w.heap.size]? = some (.deferred (some [])) → Code.ret.wpIn Fence.wide 3 P Q { a with defers := { target := .collected w.heap.size, args := #[] } :: a.defers } W) :
 (Code.rangeFunc g ps assign body).wpIn Fence.wide 3 P Q a w := by
 refine wpIn_rangeFunc fun fn hfn => ?_
 let rec_ : LoopState → Option Code → Loop := fun st pe => { state := st, pending := pe, fn, tmps := a.tmps, params := ps, assign, body, defers := w.heap.size }
 let W1 : World := (w.alloc (.deferred (some []))).alloc (.loop (rec_ .ready none))
 have hs1 : W1.heap.size = w.heap.size + 2 := by simp [W1]
 have hL : W1.heap[w.heap.size + 1]? = some (.loop (rec_ .ready none)) := by
  have h := World.alloc_heap_new (w.alloc (.deferred (some []))) (.loop (rec_ .ready none))
  rwa [World.size_alloc] at h
 have hD : W1.heap[w.heap.size]? = some (.deferred (some [])) := (Below.heap_alloc _ _ _ (by simp)).trans (World.alloc_heap_new w _)
 have hI1 : I [] W1 := hI.new (hI.new h0 _) _
 let st : List α → LoopState × Option Code := fun pre => if ∀ y ∈ pre, good y = true then (.ready, none) else (.done, some .ret)
 let J : List α → World → Prop := fun pre W => I pre W ∧ W.heap[w.heap.size + 1]? = some (.loop (rec_ (st pre).1 (st pre).2)) ∧ W.heap[w.heap.size]? = some (.deferred (some [])) ∧ w.heap.size + 2 ≤ W.heap.size
 have hst0 : st [] = (.ready, none) := if_pos (fun y hy => by cases hy)
 have hst1 : ∀ {pre : List α}, (∀ y ∈ pre, good y = true) → st pre = (.ready, none) := fun h => if_pos h
 have hst2 : ∀ {pre : List α} {x : α}, good x = false → st (pre ++ [x]) = (.done, some .ret) := fun {pre x} h => if_neg (fun hh => by have := hh x (by simp); rw [h] at this; cases this)
 refine ⟨w.heap.size + 1, [{ target := .collected w.heap.size, args := #[] }], W1, { target := .fn (.func gf) lb, args := fst ++ #[.func (.yield (w.heap.size + 1)) #[] #[]] }, W1, gf,
  fst ++ #[.func (.yield (w.heap.size + 1)) #[] #[]] ++ lb, W1, run_enterLoop_outer _ _ _ _ _, ?_, fun _ _ => trivial, by simp [invoke, go_sem, eg], fun _ => by omega, ?_⟩
 · simp only [resolve, hg]
   simp [go_sem]
 · refine (hseq (w.heap.size + 1) J W1 hs1 ⟨hI1, by rw [hst0]; exact hL, hD, by omega⟩ ?_ (fun s A h => h.1) ?_).mono ?_
   · rintro s A A' row ⟨h1, h2, h3, h4⟩ hgr hr
     have hb : ∀ k, k < w.heap.size + 2 → A'.heap[k]? = A.heap[k]? := fun k hk => hgr.block k (by omega) (fun e => by have := (hr k e.symm).1; omega)
     exact ⟨hI s A A' row h1 hgr (fun r e => ⟨by have := (hr r e).1; omega, (hr r e).2⟩), (hb _ (by omega)).trans h2, (hb _ (by omega)).trans h3, Nat.le_trans h4 hgr.size⟩
   · rintro m pre x W hxr ⟨h1, h2, h3, h4⟩ hgood _
     rw [hst1 hgood] at h2
     refine yieldAny (m := 1) m ⟨fn, _, assign, body, run_yield h2 (hps x), roundIn_of_wpIn hfn (wpIn_mono (hround _ pre x W hxr h4 h1 hgood) ?_)⟩
     rintro ex a' Wa hex
     cases ex with
     | normal => ?_
     | _ => exact hex.elim
     obtain ⟨hga, hgo⟩ := hex
     have ka : Kept w.heap.size W Wa := .grown hga (fun r e => by cases e)
     have h2a := (ka.same _ (by omega) (by omega)).trans h2
     have h3a := (ka.same _ (by omega) (by omega)).trans h3
     have h4a := ka.size
     refine ⟨Wa.putObj (w.heap.size + 1) (.loop { rec_ .ready none with state := .busy }), run_beginRound h2a rfl, ?_⟩
     have hl2 : (Wa.putObj (w.heap.size + 1) (.loop { rec_ .ready none with state := .busy })).heap[w.heap.size + 1]? = some (.loop { rec_ .ready none with state := .busy }) := World.putObj_heap_same (by omega)
     have hk2 := (World.putObj_heap_other (w := Wa) (o := .loop { rec_ .ready none with state := .busy }) (show w.heap.size ≠ w.heap.size + 1 by omega)).trans h3a
     refine wpIn_mono (hgo (Wa.putObj (w.heap.size + 1) (.loop { rec_ .ready none with state := .busy })) (by simp) (fun k hk => World.putObj_heap_other hk) (hI _ _ _ _ (hI _ _ _ _ h1 hga (fun r e => by cases e)) (grownBy_putObj' Wa _ _) (fun r e => by cases e; exact ⟨by omega, _, h2a, rfl⟩))) ?_
     have fin : ∀ (c : Option Code) (W3 : World), I (pre ++ [x]) W3 → Held w.heap.size (Wa.putObj (w.heap.size + 1) (.loop { rec_ .ready none with state := .busy })) W3 → st (pre ++ [x]) = (if c.isNone then .ready else .done, c) →
      (Instr.endRound (w.heap.size + 1) c).run P W3 = .ok (.bool c.isNone) (W3.putObj (w.heap.size + 1) (.loop (rec_ (if c.isNone then .ready else .done) c))) ∧
      J (pre ++ [x]) (W3.putObj (w.heap.size + 1) (.loop (rec_ (if c.isNone then .ready else .done) c))) ∧ W.heap.size ≤ (W3.putObj (w.heap.size + 1) (.loop (rec_ (if c.isNone then .ready else .done) c))).heap.size := fun c W3 hi3 hk3 hs => by
      have hl3 := hk3.b.trans hl2
      have hd3 := hk3.a.trans hk2
      have hz3 : w.heap.size + 2 ≤ W3.heap.size := Nat.le_trans (by simp; omega) hk3.size
      refine ⟨run_endRound c hl3, ⟨hI _ _ _ _ hi3 (grownBy_putObj' W3 _ _) (fun r e => by cases e; exact ⟨by omega, _, hl3, rfl⟩), by rw [hs]; exact World.putObj_heap_same (by omega), (World.putObj_heap_other (by omega)).trans hd3, by simp; omega⟩, ?_⟩
      exact Nat.le_trans ka.size (Nat.le_trans (by simp) (Nat.le_trans hk3.size (by simp)))
     rintro e a3 W3 hp
     cases e with
     | normal =>
      obtain ⟨hgx, hi3, hk3⟩ := hp
      obtain ⟨hr, hj, hk⟩ := fin none W3 hi3 hk3 (hst1 (good_snoc hgood hgx))
      exact ⟨_, _, hr, by rw [hgx]; rfl, hj, hk⟩
     | ret =>
      obtain ⟨hgx, hi3, hk3⟩ := hp
      obtain ⟨hr, hj, hk⟩ := fin (some .ret) W3 hi3 hk3 (hst2 hgx)
      exact ⟨_, _, hr, by rw [hgx]; rfl, hj, hk⟩
     | _ => exact hp.elim
   · rintro e W2 ⟨⟨v, rfl⟩, hi, hl, hk, hz⟩
     by_cases hall : ∀ y ∈ xs, good y = true
     · rw [upTo_all hall] at hi hl
       rw [hst1 hall] at hl
       exact ⟨none, _, run_endLoop hl (by simp [rec_]), hdone _ (by simp; omega) (hI _ _ _ _ hi (grownBy_putObj' W2 _ _) (fun r e => by cases e; exact ⟨by omega, _, hl, rfl⟩)) hall ((World.putObj_heap_other (by omega)).trans hk)⟩
     · have hs : st (upTo good xs) = (.done, some .ret) := if_neg (fun hh => hall (upTo_ext hh))
       rw [hs] at hl
       exact ⟨some .ret, _, run_endLoop hl (by simp [rec_]), hstop _ (by simp; omega) (hI _ _ _ _ hi (grownBy_putObj' W2 _ _) (fun r e => by cases e; exact ⟨by omega, _, hl, rfl⟩)) hall ((World.putObj_heap_other (by omega)).trans hk)⟩
end Go.Proofs.YteclpblfleakhaaDoor.Up

import Derived.Test.YthjdacbgcpldjaaDoorPkPlaceCalls
import Derived.Deep.RegionHeld3
import Derived.BigRegion
import Derived.Test.YthjdacbgcpldjaaDoorPkUp
import Derived.Deep.Quiet
import Derived.StillTail
import Derived.Lib.QuietBelow
import Derived.Test.YthjdacbgcpldjaaDoorPkPlaceMath

/-
  Contracts of package place's distance, and what is wanted where a place is a result.
-/
namespace Go.Proofs.YthjdacbgcpldjaaDoor.Place
open Go.RowKit
set_option linter.unusedVariables false

theorem res_place {fn : Func} {p : Tmp} (h : fn.results = #[.cell p 26]) {tmps : Array Value} {w : World} {g : Nat} {x y : Value} (hp : tmps.getD p undef = .pointer (some ⟨g, 0, none⟩))
    (c0 : w.cell? ⟨g, 0, none⟩ = some x) (c1 : w.cell? ⟨g, 1, none⟩ = some y) : (results fn tmps).run Tryd.prog w = .ok (.agg #[x, y]) w := by
  have hp' : tmps[p]?.getD undef = .pointer (some ⟨g, 0, none⟩) := by simpa using hp
  simp only [results, h]
  go_simp

theorem refDist_any (ax ay bx by_ : Int) (w : World) :
    Calls Tryd.prog 76 #[.agg #[.int .i64 ax, .int .i64 ay], .agg #[.int .i64 bx, .int .i64 by_]] w fun e w' => e = .returned (.int .i64 (distV (ax, ay) (bx, by_))) ∧ Below w.heap.size w w' := by
  have hb0 : Below w.heap.size w ((w.alloc (.cells #[.int .i64 ax, .int .i64 ay] 26)).alloc (.cells #[.int .i64 bx, .int .i64 by_] 26)) := ((Below.refl _ _).alloc (Nat.le_refl _) _).alloc (by simp) _
  cases h1 : mayB (ax, ay)
  · have hd := Lib.hid (distV_no1 (b := (bx, by_)) h1)
    go_enter Tryd.func76, Tryd.ntmps76
    go_wp2_with fail
    refine (refMay_any _ _ _).mono ?_
    rintro e w1 ⟨rfl, hb1⟩
    rw [h1]
    go_wp2
    go_ret
    exact ⟨ret_int hd.out.symm, hb0.trans (hb1.mono hb0.size)⟩
  · cases h2 : mayB (bx, by_)
    · have hd := Lib.hid (distV_no2 (a := (ax, ay)) h2)
      go_enter Tryd.func76, Tryd.ntmps76
      go_wp2_with fail
      refine (refMay_any _ _ _).mono ?_
      rintro e w1 ⟨rfl, hb1⟩
      rw [h1]
      have c3 := (hb1.cell (p := ⟨w.heap.size + 1, 0, none⟩) (by simp)).trans (show _ = some (.int .i64 bx) by go_simp)
      have c4 := (hb1.cell (p := ⟨w.heap.size + 1, 1, none⟩) (by simp)).trans (show _ = some (.int .i64 by_) by go_simp)
      go_wp2_with fail
      refine (refMay_any _ _ _).mono ?_
      rintro e w2 ⟨rfl, hb2⟩
      rw [h2]
      go_wp2
      go_ret
      exact ⟨ret_int hd.out.symm, (hb0.trans (hb1.mono hb0.size)).trans (hb2.mono (hb0.trans (hb1.mono hb0.size)).size)⟩
    · have hd := Lib.hid (distV_yes h1 h2)
      have m1 := (mayB_iff _).1 h1
      have m2 := (mayB_iff _).1 h2
      simp only at m1 m2
      go_enter Tryd.func76, Tryd.ntmps76
      go_wp2_with fail
      refine (refMay_any _ _ _).mono ?_
      rintro e w1 ⟨rfl, hb1⟩
      rw [h1]
      have c3 := (hb1.cell (p := ⟨w.heap.size + 1, 0, none⟩) (by simp)).trans (show _ = some (.int .i64 bx) by go_simp)
      have c4 := (hb1.cell (p := ⟨w.heap.size + 1, 1, none⟩) (by simp)).trans (show _ = some (.int .i64 by_) by go_simp)
      go_wp2_with fail
      refine (refMay_any _ _ _).mono ?_
      rintro e w2 ⟨rfl, hb2⟩
      rw [h2]
      have d1 := (hb2.cell (p := ⟨w.heap.size, 0, none⟩) (Nat.lt_of_lt_of_le (by simp; omega) hb1.size)).trans ((hb1.cell (p := ⟨w.heap.size, 0, none⟩) (by simp; omega)).trans (show _ = some (.int .i64 ax) by go_simp))
      have d2 := (hb2.cell (p := ⟨w.heap.size, 1, none⟩) (Nat.lt_of_lt_of_le (by simp; omega) hb1.size)).trans ((hb1.cell (p := ⟨w.heap.size, 1, none⟩) (by simp; omega)).trans (show _ = some (.int .i64 ay) by go_simp))
      have d3 := (hb2.cell (p := ⟨w.heap.size + 1, 0, none⟩) (Nat.lt_of_lt_of_le (by simp) hb1.size)).trans c3
      have d4 := (hb2.cell (p := ⟨w.heap.size + 1, 1, none⟩) (Nat.lt_of_lt_of_le (by simp) hb1.size)).trans c4
      clear c3 c4
      have hB : Below w.heap.size w w2 := (hb0.trans (hb1.mono hb0.size)).trans (hb2.mono (hb0.trans (hb1.mono hb0.size)).size)
      have g1 := gap_side m1.1 m2.1
      have g2 := gap_side m1.2 m2.2
      clear hb1 hb2 hb0
      go_wp2
      go_quiet ((go_at_call 99; refine Calls.quiet_of_same (refApart_any _ _ (by omega) (by omega) _)))
      go_wp2
      go_ret
      exact ⟨ret_int hd.out.symm, below_drewN hB nq⟩

theorem i64_wrap {n : Int} (h1 : -9223372036854775808 ≤ n) (h2 : n ≤ 9223372036854775807) : IntKind.i64.wrap n = n := by
  simp [IntKind.wrap, IntKind.bits, IntKind.signed]
  omega

end Go.Proofs.YthjdacbgcpldjaaDoor.Place

/-
  What memory holds of requests, vehicles, visits and times; contracts of package sched's visitOf, Place and Window.
-/
namespace Go.Proofs.YthjdacbgcpldjaaDoor.When
open Go.RowKit Go.Proofs.YthjdacbgcpldjaaDoor.Mem Go.Proofs.YthjdacbgcpldjaaDoor.Route
set_option linter.unusedVariables false

def rqV (q : Rq) : List Value := [.int .i64 q.fx, .int .i64 q.fy, .int .i64 q.tx, .int .i64 q.ty, .int .i64 q.pe, .int .i64 q.pl, .int .i64 q.de, .int .i64 q.dl, .int .i64 q.ld, .int .i64 q.sv]
def tmC (x : Tm) : List Value := [.int .i64 x.ar, .int .i64 x.be, .int .i64 x.lv]
/-- A row of requests; a row of times. -/
def Rqs (B : Nat) (W : World) (v : Value) (t : List Rq) : Prop := RowB B W v 10 (t.map rqV)
def Tms (B : Nat) (W : World) (v : Value) (l : List Tm) : Prop := RowB B W v 3 (l.map tmC)
theorem Rqs.keep {B C : Nat} {W W' : World} {v : Value} {l : List Rq} (h : Rqs B W v l) (hb : Below C W W') (hB : B ≤ C) : Rqs B W' v l := RowB.keep h hb hB
theorem Rqs.more {B C : Nat} {W : World} {v : Value} {l : List Rq} (h : Rqs B W v l) (hB : B ≤ C) : Rqs C W v l := RowB.more h hB
theorem Rqs.on {W W' : World} {v : Value} {l : List Rq} (h : Rqs W.heap.size W v l) (hb : Below W.heap.size W W') : Rqs W'.heap.size W' v l := RowB.on h hb
theorem Tms.keep {B C : Nat} {W W' : World} {v : Value} {l : List Tm} (h : Tms B W v l) (hb : Below C W W') (hB : B ≤ C) : Tms B W' v l := RowB.keep h hb hB
theorem Tms.on {W W' : World} {v : Value} {l : List Tm} (h : Tms W.heap.size W v l) (hb : Below W.heap.size W W') : Tms W'.heap.size W' v l := RowB.on h hb
theorem Rqs.opened {B : Nat} {W : World} {v : Value} {t : List Rq} (h : Rqs B W v t) : ∃ x N cap, v = .slice x N cap ∧ t.length = N ∧ N ≤ cap ∧ cap ≤ maxLen ∧ (x = none → t = []) := by
  obtain ⟨x, cap, rfl, h1, h2, h0, _⟩ := h
  refine ⟨x, t.length, cap, by simp, rfl, by simpa using h1, h2, fun e => ?_⟩
  have := h0 e
  simpa using this.1
theorem Tms.opened {B : Nat} {W : World} {v : Value} {t : List Tm} (h : Tms B W v t) : ∃ x N cap, v = .slice x N cap ∧ t.length = N ∧ N ≤ cap ∧ cap ≤ maxLen ∧ (x = none → t = []) := by
  obtain ⟨x, cap, rfl, h1, h2, h0, _⟩ := h
  refine ⟨x, t.length, cap, by simp, rfl, by simpa using h1, h2, fun e => ?_⟩
  have := h0 e
  simpa using this.1
/-- The k-th request's cells. -/
theorem Rqs.at {B : Nat} {W : World} {x : Option Addr} {n cap : Nat} {t : List Rq} (h : Rqs B W (.slice x n cap) t) {k : Nat} {q : Rq} (hk : t[k]? = some q) :
    ∃ g o, x = some ⟨g, o, none⟩ ∧ g < B ∧ (W.cell? ⟨g, o + k * 10, none⟩ = some (.int .i64 q.fx) ∧ W.cell? ⟨g, o + k * 10 + 1, none⟩ = some (.int .i64 q.fy) ∧ W.cell? ⟨g, o + k * 10 + 2, none⟩ = some (.int .i64 q.tx) ∧ W.cell? ⟨g, o + k * 10 + 3, none⟩ = some (.int .i64 q.ty)
      ∧ W.cell? ⟨g, o + k * 10 + 4, none⟩ = some (.int .i64 q.pe) ∧ W.cell? ⟨g, o + k * 10 + 5, none⟩ = some (.int .i64 q.pl) ∧ W.cell? ⟨g, o + k * 10 + 6, none⟩ = some (.int .i64 q.de) ∧ W.cell? ⟨g, o + k * 10 + 7, none⟩ = some (.int .i64 q.dl)
      ∧ W.cell? ⟨g, o + k * 10 + 8, none⟩ = some (.int .i64 q.ld) ∧ W.cell? ⟨g, o + k * 10 + 9, none⟩ = some (.int .i64 q.sv)) := by
  obtain ⟨g, o, e, hg, hc⟩ := RowB.row h (j := k) (r := rqV q) (by rw [List.getElem?_map, hk]; rfl)
  exact ⟨g, o, e, hg, hc 0 _ rfl, hc 1 _ rfl, hc 2 _ rfl, hc 3 _ rfl, hc 4 _ rfl, hc 5 _ rfl, hc 6 _ rfl, hc 7 _ rfl, hc 8 _ rfl, hc 9 _ rfl⟩
theorem Tms.at {B : Nat} {W : World} {x : Option Addr} {n cap : Nat} {t : List Tm} (h : Tms B W (.slice x n cap) t) {k : Nat} {q : Tm} (hk : t[k]? = some q) :
    ∃ g o, x = some ⟨g, o, none⟩ ∧ g < B ∧ (W.cell? ⟨g, o + k * 3, none⟩ = some (.int .i64 q.ar) ∧ W.cell? ⟨g, o + k * 3 + 1, none⟩ = some (.int .i64 q.be) ∧ W.cell? ⟨g, o + k * 3 + 2, none⟩ = some (.int .i64 q.lv)) := by
  obtain ⟨g, o, e, hg, hc⟩ := RowB.row h (j := k) (r := tmC q) (by rw [List.getElem?_map, hk]; rfl)
  exact ⟨g, o, e, hg, hc 0 _ rfl, hc 1 _ rfl, hc 2 _ rfl⟩

theorem put10 {w : World} {g : Nat} {t : TypeId} {x0 x1 x2 x3 x4 x5 x6 x7 x8 x9 y0 y1 y2 y3 y4 y5 y6 y7 y8 y9 : Value} (h : At w g t #[x0, x1, x2, x3, x4, x5, x6, x7, x8, x9]) :
    At ((((((((((w.setCell ⟨g, 0, none⟩ y0).setCell ⟨g, 1, none⟩ y1).setCell ⟨g, 2, none⟩ y2).setCell ⟨g, 3, none⟩ y3).setCell ⟨g, 4, none⟩ y4).setCell ⟨g, 5, none⟩ y5).setCell ⟨g, 6, none⟩ y6).setCell ⟨g, 7, none⟩ y7).setCell ⟨g, 8, none⟩ y8).setCell ⟨g, 9, none⟩ y9) g t #[y0, y1, y2, y3, y4, y5, y6, y7, y8, y9] := by
  simpa using (((((((((h.put 0 y0).put 1 y1).put 2 y2).put 3 y3).put 4 y4).put 5 y5).put 6 y6).put 7 y7).put 8 y8).put 9 y9
theorem put5 {w : World} {g : Nat} {t : TypeId} {x0 x1 x2 x3 x4 y0 y1 y2 y3 y4 : Value} (h : At w g t #[x0, x1, x2, x3, x4]) :
    At (((((w.setCell ⟨g, 0, none⟩ y0).setCell ⟨g, 1, none⟩ y1).setCell ⟨g, 2, none⟩ y2).setCell ⟨g, 3, none⟩ y3).setCell ⟨g, 4, none⟩ y4) g t #[y0, y1, y2, y3, y4] := by
  simpa using ((((h.put 0 y0).put 1 y1).put 2 y2).put 3 y3).put 4 y4
theorem put3 {w : World} {g : Nat} {t : TypeId} {x0 x1 x2 y0 y1 y2 : Value} (h : At w g t #[x0, x1, x2]) :
    At (((w.setCell ⟨g, 0, none⟩ y0).setCell ⟨g, 1, none⟩ y1).setCell ⟨g, 2, none⟩ y2) g t #[y0, y1, y2] := by
  simpa using ((h.put 0 y0).put 1 y1).put 2 y2
theorem put2 {w : World} {g : Nat} {t : TypeId} {x0 x1 y0 y1 : Value} (h : At w g t #[x0, x1]) : At ((w.setCell ⟨g, 0, none⟩ y0).setCell ⟨g, 1, none⟩ y1) g t #[y0, y1] := by simpa using (h.put 0 y0).put 1 y1

/-- A struct's cells, and a Bool, as results. -/
theorem res_visit {fn : Func} {p c : Tmp} (h : fn.results = #[.cell p 121, .tmp c]) {tmps : Array Value} {w : World} {g : Nat} {x0 x1 x2 x3 x4 b : Value} (hp : tmps.getD p undef = .pointer (some ⟨g, 0, none⟩)) (hc : tmps.getD c undef = b)
    (c0 : w.cell? ⟨g, 0, none⟩ = some x0) (c1 : w.cell? ⟨g, 1, none⟩ = some x1) (c2 : w.cell? ⟨g, 2, none⟩ = some x2) (c3 : w.cell? ⟨g, 3, none⟩ = some x3) (c4 : w.cell? ⟨g, 4, none⟩ = some x4) : (results fn tmps).run Tryd.prog w = .ok (.tuple #[.agg #[x0, x1, x2, x3, x4], b]) w := by
  have hp' : tmps[p]?.getD undef = .pointer (some ⟨g, 0, none⟩) := by simpa using hp
  have hc' : tmps[c]?.getD undef = b := by simpa using hc
  simp only [results, h]
  go_simp
theorem res_pl {fn : Func} {p c : Tmp} (h : fn.results = #[.cell p 26, .tmp c]) {tmps : Array Value} {w : World} {g : Nat} {x0 x1 b : Value} (hp : tmps.getD p undef = .pointer (some ⟨g, 0, none⟩)) (hc : tmps.getD c undef = b)
    (c0 : w.cell? ⟨g, 0, none⟩ = some x0) (c1 : w.cell? ⟨g, 1, none⟩ = some x1) : (results fn tmps).run Tryd.prog w = .ok (.tuple #[.agg #[x0, x1], b]) w := by
  have hp' : tmps[p]?.getD undef = .pointer (some ⟨g, 0, none⟩) := by simpa using hp
  have hc' : tmps[c]?.getD undef = b := by simpa using hc
  simp only [results, h]
  go_simp
theorem res_wi {fn : Func} {p c : Tmp} (h : fn.results = #[.cell p 58, .tmp c]) {tmps : Array Value} {w : World} {g : Nat} {x0 x1 b : Value} (hp : tmps.getD p undef = .pointer (some ⟨g, 0, none⟩)) (hc : tmps.getD c undef = b)
    (c0 : w.cell? ⟨g, 0, none⟩ = some x0) (c1 : w.cell? ⟨g, 1, none⟩ = some x1) : (results fn tmps).run Tryd.prog w = .ok (.tuple #[.agg #[x0, x1], b]) w := by
  have hp' : tmps[p]?.getD undef = .pointer (some ⟨g, 0, none⟩) := by simpa using hp
  have hc' : tmps[c]?.getD undef = b := by simpa using hc
  simp only [results, h]
  go_simp

theorem ret_vi {a0 a1 a2 a3 a4 b0 b1 b2 b3 b4 : Int} {c d : Bool} (h0 : a0 = b0) (h1 : a1 = b1) (h2 : a2 = b2) (h3 : a3 = b3) (h4 : a4 = b4) (h : c = d) :
    Ending.returned (.tuple #[.agg #[.int .i64 a0, .int .i64 a1, .int .i64 a2, .int .i64 a3, .int .i64 a4], .bool c]) = .returned (.tuple #[.agg #[.int .i64 b0, .int .i64 b1, .int .i64 b2, .int .i64 b3, .int .i64 b4], .bool d]) := by rw [h0, h1, h2, h3, h4, h]
theorem ret_two {a0 a1 b0 b1 : Int} {c d : Bool} (h0 : a0 = b0) (h1 : a1 = b1) (h : c = d) :
    Ending.returned (.tuple #[.agg #[.int .i64 a0, .int .i64 a1], .bool c]) = .returned (.tuple #[.agg #[.int .i64 b0, .int .i64 b1], .bool d]) := by rw [h0, h1, h]

theorem vis_none {t : List Rq} {s : Int × Int} (h : visO t s = none) : visV t s = noVi ∧ visB t s = false := by simp [visV, visB, h]
theorem vis_some {t : List Rq} {s : Int × Int} {x : Vi} (h : visO t s = some x) : visV t s = x ∧ visB t s = true := by simp [visV, visB, h]

set_option maxHeartbeats 1000000 in
theorem visitOf_any (s1 s2 : Int) (v : Value) (t : List Rq) (w : World) (h : Rqs w.heap.size w v t) :
    Calls Tryd.prog 62 #[.agg #[.int .i64 s1, .int .i64 s2], v] w fun e w' => e = .returned (.tuple #[.agg #[.int .i64 (visV t (s1, s2)).px, .int .i64 (visV t (s1, s2)).py, .int .i64 (visV t (s1, s2)).we, .int .i64 (visV t (s1, s2)).wl, .int .i64 (visV t (s1, s2)).sv], .bool (visB t (s1, s2))]) ∧ Below w.heap.size w w' := by
  obtain ⟨x, N, cap, rfl, hN, hc1, hc2, hx⟩ := h.opened
  by_cases h1 : s1 < 0
  · have ho := vis_none (visO_out (t := t) (s := (s1, s2)) (by simp [inT]; omega))
    rw [ho.1, ho.2]
    clear ho h hN hx
    go_enter Tryd.func62, Tryd.ntmps62
    go_wp2
    refine bodyPost_ret (res_visit rfl rfl rfl (x0 := .int .i64 0) (x1 := .int .i64 0) (x2 := .int .i64 0) (x3 := .int .i64 0) (x4 := .int .i64 0) (by go_simp) (by go_simp) (by go_simp) (by go_simp) (by go_simp)) rfl ?_
    exact ⟨ret_vi rfl rfl rfl rfl rfl rfl, by repeat (first | exact Below.refl _ _ | refine Below.alloc ?_ (by simp <;> omega) _ | refine Below.setCell ?_ (by simp <;> omega) _)⟩
  · by_cases h2 : (N : Int) ≤ s1
    · have ho := vis_none (visO_out (t := t) (s := (s1, s2)) (by simp [inT]; omega))
      rw [ho.1, ho.2]
      clear ho h hN hx
      go_enter Tryd.func62, Tryd.ntmps62
      go_wp2
      refine bodyPost_ret (res_visit rfl rfl rfl (x0 := .int .i64 0) (x1 := .int .i64 0) (x2 := .int .i64 0) (x3 := .int .i64 0) (x4 := .int .i64 0) (by go_simp) (by go_simp) (by go_simp) (by go_simp) (by go_simp)) rfl ?_
      exact ⟨ret_vi rfl rfl rfl rfl rfl rfl, by repeat (first | exact Below.refl _ _ | refine Below.alloc ?_ (by simp <;> omega) _ | refine Below.setCell ?_ (by simp <;> omega) _)⟩
    · have hi : inT t s1 = true := by simp [inT]; omega
      obtain ⟨q, hq, _, _⟩ := inT_get hi
      obtain ⟨k, rfl⟩ : ∃ k : Nat, s1 = k := ⟨s1.toNat, by omega⟩
      simp only [Int.toNat_natCast] at hq
      obtain ⟨g, o, rfl, hg, c0, c1, c2, c3, c4, c5, c6, c7, c8, c9⟩ := h.at hq
      have hk : k < N := by omega
      have hk2 : ((k : Int) < N) := by omega
      by_cases e0 : s2 = 0
      · have ho := vis_some (visO_pick (t := t) (s := (k, s2)) (q := q) hi (by simpa using hq) e0)
        rw [ho.1, ho.2]
        subst e0
        clear ho h hN hx hq hi
        go_enter Tryd.func62, Tryd.ntmps62
        go_wp2
        refine bodyPost_ret (res_visit rfl rfl rfl (x0 := .int .i64 q.fx) (x1 := .int .i64 q.fy) (x2 := .int .i64 q.pe) (x3 := .int .i64 q.pl) (x4 := .int .i64 q.sv) (by go_simp) (by go_simp) (by go_simp) (by go_simp) (by go_simp)) rfl ?_
        exact ⟨ret_vi rfl rfl rfl rfl rfl rfl, by repeat (first | exact Below.refl _ _ | refine Below.alloc ?_ (by simp <;> omega) _ | refine Below.setCell ?_ (by simp <;> omega) _)⟩
      · by_cases e1 : s2 = 1
        · have ho := vis_some (visO_drop (t := t) (s := (k, s2)) (q := q) hi (by simpa using hq) e1)
          rw [ho.1, ho.2]
          subst e1
          clear ho h hN hx hq hi
          go_enter Tryd.func62, Tryd.ntmps62
          go_wp2
          refine bodyPost_ret (res_visit rfl rfl rfl (x0 := .int .i64 q.tx) (x1 := .int .i64 q.ty) (x2 := .int .i64 q.de) (x3 := .int .i64 q.dl) (x4 := .int .i64 q.sv) (by go_simp) (by go_simp) (by go_simp) (by go_simp) (by go_simp)) rfl ?_
          exact ⟨ret_vi rfl rfl rfl rfl rfl rfl, by repeat (first | exact Below.refl _ _ | refine Below.alloc ?_ (by simp <;> omega) _ | refine Below.setCell ?_ (by simp <;> omega) _)⟩
        · have ho := vis_none (visO_odd (t := t) (s := (k, s2)) e0 e1)
          rw [ho.1, ho.2]
          clear ho h hN hx hq hi
          go_enter Tryd.func62, Tryd.ntmps62
          go_wp2
          refine bodyPost_ret (res_visit rfl rfl rfl (x0 := .int .i64 0) (x1 := .int .i64 0) (x2 := .int .i64 0) (x3 := .int .i64 0) (x4 := .int .i64 0) (by go_simp) (by go_simp) (by go_simp) (by go_simp) (by go_simp)) rfl ?_
          exact ⟨ret_vi rfl rfl rfl rfl rfl rfl, by repeat (first | exact Below.refl _ _ | refine Below.alloc ?_ (by simp <;> omega) _ | refine Below.setCell ?_ (by simp <;> omega) _)⟩

theorem Place_any (s1 s2 : Int) (v : Value) (t : List Rq) (w : World) (h : Rqs w.heap.size w v t) :
    Calls Tryd.prog 66 #[.agg #[.int .i64 s1, .int .i64 s2], v] w fun e w' => e = .returned (.tuple #[.agg #[.int .i64 (visV t (s1, s2)).px, .int .i64 (visV t (s1, s2)).py], .bool (visB t (s1, s2))]) ∧ Below w.heap.size w w' := by
  obtain ⟨x, N, cap, rfl, hN, hc1, hc2, hx⟩ := h.opened
  have hv := fun w' (hb : Below w.heap.size w w') => visitOf_any s1 s2 _ t w' (h.on hb)
  generalize visV t (s1, s2) = u at *
  generalize visB t (s1, s2) = b at *
  clear h hN hx
  have hb0 : Below w.heap.size w ((w.alloc (.cells #[.int .i64 s1, .int .i64 s2] 66)).alloc (.cells #[.int .i64 0, .int .i64 0] 26)) := ((Below.refl _ _).alloc (Nat.le_refl _) _).alloc (by simp) _
  have hv := hv _ hb0
  go_enter Tryd.func66, Tryd.ntmps66
  go_wp2_with fail
  refine hv.mono ?_
  clear hv
  rintro e w1 ⟨rfl, hb1⟩
  have hA := (At.new_ (w.alloc (.cells #[.int .i64 s1, .int .i64 s2] 66)) 26 #[.int .i64 0, .int .i64 0] (n := w.heap.size + 1) (by simp)).keep hb1 (by simp)
  have hbb := hb0.trans (hb1.mono hb0.size)
  have hlt : w.heap.size + 1 < w1.heap.size := hA.inside
  have z0 := hA.cell 0
  have z1 := hA.cell 1
  have zf := hA.free
  simp at z0 z1
  clear hb0 hb1
  go_wp2
  refine bodyPost_ret (res_pl rfl rfl rfl (x0 := .int .i64 u.px) (x1 := .int .i64 u.py) (by go_simp) (by go_simp)) rfl ?_
  exact ⟨ret_two rfl rfl rfl, by repeat (first | exact hbb | refine Below.alloc ?_ (by simp <;> omega) _ | refine Below.setCell ?_ (by simp <;> omega) _)⟩


end Go.Proofs.YthjdacbgcpldjaaDoor.When

/-
  A region that draws its order, whose first n operations and callees only read (blocks may be laid), and whose last ones stand in one forced order behind them: walked once, in the text's order. Nothing here speaks of a program.
-/
namespace Go.Proofs.YthjdacbgcpldjaaDoor.Tail

/-- The head looks back alone, its guards too; whatever stands in it is waited for by a later one of it, or by the tail's first; the tail stands in one order. -/
def okB (l : List Oper) (n : Nat) : Bool :=
  decide (n < l.length) &&
  ((List.range n).all fun j => ((l[j]?).map fun o => ((o.guard.map fun g => decide (g.1 < j)).getD true) && o.after.toList.all fun e => decide (e.on < j)).getD false) &&
  ((List.range n).all fun h => (List.range (n + 1)).any fun k => decide (h < k) && ((l[k]?).map fun o => o.after.toList.any fun e => Region.binds .any e && decide (e.on = h)).getD false) &&
  ((List.range (l.length - n)).all fun t => t == 0 || ((l[n + t]?).map fun o => o.after.toList.any fun e => Region.binds .any e && decide (e.on + 1 = n + t)).getD false) &&
  Region.seqB .any l.toArray (l.length - n) n (Array.replicate n true ++ Array.replicate (l.length - n) false)

structure Ok (l : List Oper) (n : Nat) : Prop where
  lt : n < l.length
  head : ∀ j o, j < n → l[j]? = some o → (∀ g, o.guard = some g → g.1 < j) ∧ ∀ e ∈ o.after, e.on < j
  needed : ∀ h, h < n → ∃ k o, h < k ∧ k ≤ n ∧ l[k]? = some o ∧ ∃ e ∈ o.after, Region.binds .any e = true ∧ e.on = h
  tail : ∀ t o, n < t → l[t]? = some o → ∃ e ∈ o.after, Region.binds .any e = true ∧ e.on + 1 = t
  seq : Region.seqB .any l.toArray (l.length - n) n (Array.replicate n true ++ Array.replicate (l.length - n) false) = true

theorem ok_of {l : List Oper} {n : Nat} (h : okB l n = true) : Ok l n := by
  simp only [okB, Bool.and_eq_true, decide_eq_true_eq, List.all_eq_true, List.mem_range] at h
  obtain ⟨⟨⟨⟨h1, h2⟩, h3⟩, h4⟩, h5⟩ := h
  refine ⟨h1, fun j o hj ho => ?_, fun k hk => ?_, fun t o ht ho => ?_, h5⟩
  · have := h2 j hj
    rw [ho] at this
    simp only [Option.map_some, Option.getD_some, Bool.and_eq_true, List.all_eq_true, decide_eq_true_eq] at this
    exact ⟨fun g hg => by have h1 := this.1; rw [hg] at h1; simpa using h1, fun e he => this.2 e (by simpa using he)⟩
  · have h6 := h3 k hk
    rw [List.any_eq_true] at h6
    obtain ⟨i, hi, h7⟩ := h6
    rw [List.mem_range] at hi
    simp only [Bool.and_eq_true, decide_eq_true_eq] at h7
    obtain ⟨h8, h9⟩ := h7
    cases ho : l[i]? with
    | none => rw [ho] at h9; simp at h9
    | some o =>
      rw [ho] at h9
      simp only [Option.map_some, Option.getD_some, List.any_eq_true, Bool.and_eq_true, decide_eq_true_eq] at h9
      obtain ⟨e, he, hb, hon⟩ := h9
      exact ⟨i, o, h8, by omega, ho, e, by simpa using he, hb, hon⟩
  · have hlt : t < l.length := (List.getElem?_eq_some_iff.1 ho).1
    have h6 := h4 (t - n) (by omega)
    rw [show n + (t - n) = t by omega, ho] at h6
    simp only [Option.map_some, Option.getD_some, Bool.or_eq_true, beq_iff_eq, List.any_eq_true, Bool.and_eq_true, decide_eq_true_eq] at h6
    rcases h6 with h6 | ⟨e, he, hb, hon⟩
    · omega
    · exact ⟨e, by simpa using he, hb, hon⟩

variable {P : Program} {l : List Oper} {n : Nat} {C : World → Prop}

/-- 'lh' lists the head's operations; 'la' all: those of the tail have not come up. -/
structure Fit (l : List Oper) (n : Nat) (lh la : Array Bool) : Prop where
  size : lh.size = n
  sizeAll : la.size = l.length
  same : ∀ j, j < n → la[j]? = lh[j]?
  rest : ∀ j, n ≤ j → j < l.length → la[j]? = some false
  closed : ∀ j o, j < n → la[j]? = some true → l[j]? = some o → ∀ e ∈ o.after, Region.binds .any e = true → la.getD e.on false = true

theorem getD_set {la : Array Bool} {i k : Nat} (h : la.getD k false = true) : (la.setIfInBounds i true).getD k false = true := by
  rw [Array.getD_eq_getD_getElem?] at h ⊢
  rw [Array.getElem?_setIfInBounds]
  by_cases hik : i = k
  · subst hik
    cases hl : la[i]? with
    | none => rw [hl] at h; simp at h
    | some b =>
      have := (Array.getElem?_eq_some_iff.1 hl).1
      simp [this]
  · rw [if_neg hik]
    exact h

theorem Fit.set {lh la : Array Bool} (h : Fit l n lh la) {i : Nat} (hi : i < n) (hr : ∀ o, l[i]? = some o → ∀ e ∈ o.after, Region.binds .any e = true → la.getD e.on false = true) : Fit l n (lh.setIfInBounds i true) (la.setIfInBounds i true) := by
  refine ⟨by simpa using h.size, by simpa using h.sizeAll, fun j hj => ?_, fun j h1 h2 => ?_, fun j o hj ht ho e he hb => ?_⟩
  · have := h.same j hj
    have hs := h.size
    simp only [Array.getElem?_setIfInBounds]
    by_cases hij : i = j
    · subst hij
      have h3 : i < la.size := by
        have e : lh[i]? = some (lh[i]'(by omega)) := Array.getElem?_eq_getElem (by omega)
        rw [e] at this
        exact (Array.getElem?_eq_some_iff.1 this).1
      simp [h3, hs, hi]
    · simp [hij, this]
  · have := h.rest j h1 h2
    rw [Array.getElem?_setIfInBounds, if_neg (by omega)]
    exact this
  · apply getD_set
    by_cases hij : i = j
    · subst hij
      exact hr o ho e he hb
    · rw [Array.getElem?_setIfInBounds, if_neg hij] at ht
      exact h.closed j o hj ht ho e he hb

/-- As long as one of the head has not come up, the tail's first may not. -/
theorem stuck (hk : Ok l n) {lh la : Array Bool} (hf : Fit l n lh la) : ∀ (m h : Nat), h < n → n - h ≤ m → la.getD h true = false → n ∉ Region.ready .any l.toArray la
  | 0, h, hh, hm, _ => by omega
  | m + 1, h, hh, hm, hu => by
    obtain ⟨k, o, h1, h2, ho, e, he, hb, hon⟩ := hk.needed h hh
    have hu' : la.getD h false = false := by
      rw [Array.getD_eq_getD_getElem?] at hu ⊢
      cases hl : la[h]? with
      | none => rfl
      | some b => rw [hl] at hu; simpa using hu
    by_cases hkn : k = n
    · subst hkn
      intro hr
      rw [mem_ready] at hr
      obtain ⟨_, o', ho', hall⟩ := hr
      have e1 : o' = o := by
        rw [show l.toArray[k]? = l[k]? by simp] at ho'
        rw [ho] at ho'
        exact (Option.some.inj ho').symm
      subst e1
      have := hall e he hb
      rw [hon, hu'] at this
      cases this
    · have hkl : k < n := by omega
      refine stuck hk hf m k hkl (by omega) ?_
      cases hv : la[k]? with
      | none =>
        have := hk.lt
        rw [Array.getElem?_eq_none_iff, hf.sizeAll] at hv
        omega
      | some b =>
        rw [Array.getD_eq_getD_getElem?, hv]
        cases b
        · rfl
        · have := hf.closed k o hkl hv ho e he hb
          rw [hon, hu'] at this
          cases this

theorem qOp_all (hk : Ok l n) {i : Nat} (hi : i < n) {K : Act → Prop} {a : Act} (h : qOp P (l.take n).toArray C i K a) : qOp P l.toArray C i K a := by
  have e : (l.take n).toArray[i]? = l.toArray[i]? := by simp [hi]
  unfold qOp at h ⊢
  rw [e] at h
  cases ho : l.toArray[i]? with
  | none => rw [ho] at h; exact h
  | some o =>
    rw [ho] at h
    have hg := (hk.head i o hi (by simpa using ho)).1
    have hw : Region.wanted o (yielded (l.take n).toArray a.tmps) = Region.wanted o (yielded l.toArray a.tmps) := by
      unfold Region.wanted
      cases hgo : o.guard with
      | none => rfl
      | some g =>
        have hlt := hg g hgo
        have e2 : (l.take n).toArray[g.1]? = l.toArray[g.1]? := by simp [show g.1 < n by omega]
        have e3 : yielded (l.take n).toArray a.tmps g.1 = yielded l.toArray a.tmps g.1 := by unfold yielded; rw [e2]
        simp only [e3]
    dsimp only at h ⊢
    rw [hw] at h
    exact h

theorem least {p : Nat → Bool} : ∀ (n : Nat), (∃ j, j < n ∧ p j = false) → ∃ j, j < n ∧ p j = false ∧ ∀ k, k < j → p k = true
  | 0, ⟨j, hj, _⟩ => absurd hj (by omega)
  | n + 1, ⟨j, hj, hp⟩ => by
    by_cases h : ∃ k, k < n ∧ p k = false
    · obtain ⟨k, h1, h2, h3⟩ := least n h
      exact ⟨k, by omega, h2, h3⟩
    · have hjn : j = n := by
        apply Classical.byContradiction
        intro hne
        exact h ⟨j, by omega, hp⟩
      subst hjn
      refine ⟨j, hj, hp, fun k hk => ?_⟩
      cases hpk : p k
      · exact absurd ⟨k, hk, hpk⟩ h
      · rfl

theorem tail_any (hk : Ok l n) {Qa : Act → Prop} {Q : Exit → Act → World → Prop} (hQ : ∀ a w, C w → Qa a → wpList P l.toArray Q (l.drop n) a w) :
    ∀ (fuel : Nat) (lh la : Array Bool) (a : Act) (w : World), C w → Fit l n lh la → lh.toList.count false = fuel → wpAnyQ P .any (l.take n).toArray C Qa fuel lh a → wpAny P .any l.toArray Q (fuel + (l.length - n)) la a w
  | 0, lh, la, a, w, hw, hf, hc, h => by
    have hall : ∀ j, j < n → la[j]? = some true := by
      intro j hj
      rw [hf.same j hj]
      have hlt : j < lh.size := by rw [hf.size]; exact hj
      rw [Array.getElem?_eq_getElem hlt]
      cases hb : lh[j]
      · exfalso
        have : false ∈ lh.toList := by rw [← hb]; simp
        have := List.count_pos_iff.2 this
        omega
      · rfl
    have hla : la = Array.replicate n true ++ Array.replicate (l.length - n) false := by
      apply Array.ext_getElem?
      intro j
      by_cases h1 : j < n
      · rw [hall j h1, Array.getElem?_append_left (by simpa using h1)]
        simp [h1]
      · rw [Array.getElem?_append_right (by simpa using (by omega : n ≤ j))]
        by_cases h2 : j < l.length
        · rw [hf.rest j (by omega) h2, Array.getElem?_replicate]
          simp
          omega
        · rw [Array.getElem?_eq_none (by rw [hf.sizeAll]; omega), Array.getElem?_eq_none (by simp; omega)]
    subst hla
    have := wpAny_of_seq (P := P) (md := .any) (ops := l.toArray) (Q' := Q) (l.drop n) n (Array.replicate n true ++ Array.replicate (l.length - n) false) a w (fun j => by simp [List.getElem?_drop]) (by simpa using hk.seq) (hQ a w hw h.2)
    simpa using this
  | fuel + 1, lh, la, a, w, hw, hf, hc, h => by
    have hsome : ∃ j, j < n ∧ lh.getD j true = false := by
      have : false ∈ lh.toList := List.count_pos_iff.1 (by omega)
      obtain ⟨j, hj, hb⟩ := List.getElem_of_mem this
      have hj' : j < lh.size := by simpa using hj
      refine ⟨j, by rw [← hf.size]; exact hj', ?_⟩
      simp only [Array.getElem_toList] at hb
      simp [hj', hb]
    have hgd : ∀ j, j < n → la.getD j true = lh.getD j true := fun j hj => by
      have := hf.same j hj
      rw [Array.getD_eq_getD_getElem?, Array.getD_eq_getD_getElem?, this]
    have hgd' : ∀ j, j < n → la.getD j false = lh.getD j false := fun j hj => by
      have := hf.same j hj
      rw [Array.getD_eq_getD_getElem?, Array.getD_eq_getD_getElem?, this]
    have hboth : ∀ j, j < n → lh.getD j false = lh.getD j true := fun j hj => by
      have hlt : j < lh.size := by rw [hf.size]; exact hj
      simp [hlt]
    obtain ⟨j, hj, hpj, hmin⟩ := least (p := fun j => lh.getD j true) n hsome
    have hready : j ∈ Region.ready .any l.toArray la := by
      rw [mem_ready]
      obtain ⟨o, ho⟩ : ∃ o, l[j]? = some o := ⟨l[j]'(by have := hk.lt; omega), List.getElem?_eq_getElem (by have := hk.lt; omega)⟩
      refine ⟨by rw [hgd j hj]; exact hpj, o, by simpa using ho, fun e he _ => ?_⟩
      have h1 := (hk.head j o hj ho).2 e he
      rw [hgd' _ (by omega), hboth _ (by omega)]
      exact hmin _ h1
    have key : (Region.ready .any l.toArray la = [] → Q .normal a w) ∧ ∀ i ∈ Region.ready .any l.toArray la, wpOp P l.toArray Q i (wpAny P .any l.toArray Q (fuel + (l.length - n)) (la.setIfInBounds i true)) a w := by
      refine ⟨fun h0 => (by rw [h0] at hready; cases hready), fun i hi => ?_⟩
      rw [mem_ready] at hi
      obtain ⟨hi0, o, ho, hall⟩ := hi
      have ho' : l[i]? = some o := by simpa using ho
      have hin : i < n := by
        apply Classical.byContradiction
        intro hni
        by_cases hin0 : i = n
        · subst hin0
          exact stuck hk hf i j hj (by omega) (by rw [hgd j hj]; exact hpj) (mem_ready.2 ⟨hi0, o, ho, hall⟩)
        · obtain ⟨e, he, hb, hon⟩ := hk.tail i o (by omega) ho'
          have h1 := hall e he hb
          have hlt : i < l.length := (List.getElem?_eq_some_iff.1 ho').1
          have h2 := hf.rest e.on (by omega) (by omega)
          rw [Array.getD_eq_getD_getElem?, h2] at h1
          cases h1
      have hih : i ∈ Region.ready .any (l.take n).toArray lh := by
        rw [mem_ready]
        refine ⟨by rw [← hgd i hin]; exact hi0, o, by simp [hin, ho'], fun e he hb => ?_⟩
        have h1 := (hk.head i o hin ho').2 e he
        rw [← hgd' _ (by omega)]
        exact hall e he hb
      refine wpOp_of_qOp hw (fun a' w' hw' hK => ?_) (qOp_all hk hin (h.2 i hih))
      refine tail_any hk hQ fuel _ _ a' w' hw' (hf.set hin (fun o1 ho1 e he hb => by rw [ho'] at ho1; cases ho1; exact hall e he hb)) ?_ hK
      have hlt : i < lh.toList.length := by simpa [hf.size] using hin
      have hfalse : lh.toList[i] = false := by
        have h2 : lh.getD i true = false := by rw [← hgd i hin]; exact hi0
        have hlt' : i < lh.size := by simpa using hlt
        simpa [hlt'] using h2
      rw [Array.toList_setIfInBounds, List.count_set hlt, hfalse, hc]
      simp
    rw [show fuel + 1 + (l.length - n) = (fuel + (l.length - n)) + 1 by omega]
    exact key

/-- **A region whose head is quiet in a class of worlds, and whose tail is forced.** -/
theorem wp_region_quiet_tail {id : Nat} {Q : Exit → Act → World → Prop} {a : Act} {w : World} (n : Nat) (hm : P.follows .mixedOrders = true) (hB : Region.lexB .any (l.take n).toArray = true) (hT : okB l n = true) (hC : C { w with drawn := w.drawn + 1 })
    (h : wpQuiet P (l.take n).toArray C (fun a' => ∀ w', C w' → wpList P l.toArray Q (l.drop n) a' w') (l.take n) a) : (Code.region id l.toArray true).wp P Q a w := by
  have hk := ok_of hT
  simp only [Region.lexB, Bool.and_eq_true] at hB
  have hlen : (l.take n).length = n := by simp; have := hk.lt; omega
  have h1 := wpAnyQ_lex (P := P) (C := C) (md := .any) (ops := (l.take n).toArray) hB.1 (l.take n) 0 (Array.replicate n false) a (by simp) (by simpa [hlen] using hB.2) h
  refine wp_region_any hm ?_
  have h2 := tail_any (P := P) (Q := Q) hk (Qa := fun a' => ∀ w', C w' → wpList P l.toArray Q (l.drop n) a' w') (fun a w hw h => h w hw) (l.take n).length (Array.replicate n false) (Array.replicate l.length false) a { w with drawn := w.drawn + 1 } hC
    ⟨by simp, by simp, fun j hj => by have := hk.lt; rw [Array.getElem?_replicate, Array.getElem?_replicate, if_pos hj, if_pos (by omega)], fun j h1 h2 => by simp [h2], fun j o hj ht => by rw [Array.getElem?_replicate] at ht; split at ht <;> cases ht⟩ (by simp [hlen]) h1
  rw [hlen, show n + (l.length - n) = l.length by have := hk.lt; omega] at h2
  simpa using h2

open Go.Sort Go.RowKit in
/-- The same, callees' contracts ending in 'Below'. -/
theorem wp_region_below_tail {id : Nat} {Q : Exit → Act → World → Prop} {a : Act} {w : World} (n : Nat) (hm : P.follows .mixedOrders = true) (hB : Region.lexB .any (l.take n).toArray = true) (hT : okB l n = true)
    (h : wpQuiet P (l.take n).toArray (fun w' => ∃ p : Regrown, w' = grow (redrawn w p.d) p.os) (fun a' => ∀ w', (∃ p : Regrown, w' = grow (redrawn w p.d) p.os) → wpList P l.toArray Q (l.drop n) a' w') (l.take n) a) : (Code.region id l.toArray true).wp P Q a w :=
  wp_region_quiet_tail (C := fun w' => ∃ p : Regrown, w' = grow (redrawn w p.d) p.os) n hm hB hT ⟨⟨w.drawn + 1, #[]⟩, by rw [grow_empty]; rfl⟩ h

end Go.Proofs.YthjdacbgcpldjaaDoor.Tail

/-
  The document's answers: how many such stops there are, whether rows are alike, and what is left without a request.
-/
namespace Go.Proofs.YthjdacbgcpldjaaDoor.Route
open Go.RowKit Go.Proofs.YthjdacbgcpldjaaDoor.Mem
set_option linter.unusedVariables false

theorem drop_get {l : List (Int × Int)} {k : Nat} (h : k < l.length) : ∃ s, l[k]? = some s ∧ l.drop k = s :: l.drop (k + 1) := ⟨l[k], List.getElem?_eq_getElem h, List.drop_eq_getElem_cons h⟩
theorem Row.opened {B : Nat} {W : World} {v : Value} {l : List (Int × Int)} (h : Row B W v l) : ∃ x N cap, v = .slice x N cap ∧ Hid (l.length = N) ∧ Hid (x = none → N = 0 ∧ cap = 0) ∧ N ≤ cap ∧ cap ≤ maxLen := by
  obtain ⟨x, cap, e, h1, h2, h0⟩ := h.slice
  exact ⟨x, l.length, cap, e, Lib.hid rfl, Lib.hid (fun hx => ⟨by rw [(h0 hx).1]; rfl, (h0 hx).2⟩), h1, h2⟩
theorem Ints.opened {B : Nat} {W : World} {v : Value} {l : List Int} (h : Ints B W v l) : ∃ x N cap, v = .slice x N cap ∧ Hid (l.length = N) ∧ N ≤ cap ∧ cap ≤ maxLen := by
  obtain ⟨x, cap, e, h1, h2⟩ := h.slice
  exact ⟨x, l.length, cap, e, Lib.hid rfl, h1, h2⟩
theorem cnt_le (s : Int × Int) (l : List (Int × Int)) : cnt s l ≤ l.length := List.length_filter_le ..
theorem take_get {l : List (Int × Int)} {k : Nat} {s : Int × Int} (h : l[k]? = some s) : l.take (k + 1) = l.take k ++ [s] := by rw [List.take_add_one, h]; rfl

set_option maxRecDepth 100000 in
set_option maxHeartbeats 1000000 in
theorem count_any (v : Value) (l : List (Int × Int)) (a b : Int) (hl : l.length ≤ 140737488351232) (w : World) (h : Row w.heap.size w v l) :
    Calls Tryd.prog 109 #[v, .agg #[.int .i64 a, .int .i64 b]] w fun e w' => e = .returned (.int .i64 (cnt (a, b) l)) ∧ Below w.heap.size w w' := by
  obtain ⟨x, N, cap, rfl, hN', h0', hc1, hc2⟩ := h.opened
  have hb0 : Below w.heap.size w (w.alloc (.cells #[.int .i64 a, .int .i64 b] 66)) := (Below.refl _ _).alloc (Nat.le_refl _) _
  have hA0 : At (w.alloc (.cells #[.int .i64 a, .int .i64 b] 66)) w.heap.size 66 #[.int .i64 a, .int .i64 b] := At.new w _ _
  have h' := Lib.hid h
  rw [hN'.out] at hl
  clear h
  go_enter Tryd.func109, Tryd.ntmps109
  go_wp2
  go_loopw [5, 6] (fun n i wr => ∃ k c : Nat, k ≤ N ∧ i = .int .i64 k ∧ n = .int .i64 c ∧ c = cnt (a, b) (l.take k) ∧ Below w.heap.size w wr ∧ At wr w.heap.size 66 #[.int .i64 a, .int .i64 b])
    (fun _ i _ => N - (intOf i).toNat)
  case atStart => exact ⟨0, 0, by omega, rfl, rfl, by simp [cnt], hb0, hA0⟩
  case round =>
    obtain ⟨k, c, hk, rfl, rfl, hcc, hbw, hA⟩ := hrel
    have hcl : c ≤ k := by
      have h1 := cnt_le (a, b) (l.take k)
      rw [List.length_take] at h1
      omega
    have hcc' := Lib.hid hcc
    clear hb0 hA0 hcc
    by_cases hlt : k < N
    · obtain ⟨s, hs, _⟩ := drop_get (l := l) (k := k) (by rw [hN'.out]; exact hlt)
      obtain ⟨s1, s2⟩ := s
      have hst := take_get hs
      obtain ⟨g, o, rfl, hg, e1, e2⟩ := Row.stop h'.out hs
      have e1 := (hbw.cell (p := ⟨g, o + k * 2, none⟩) hg).trans e1
      have e2 := (hbw.cell (p := ⟨g, o + k * 2 + 1, none⟩) hg).trans e2
      have a0 := hA.cell 0
      have a1 := hA.cell 1
      simp at a0 a1 e1 e2
      have hyes := Lib.hid (show s1 = a → s2 = b → cnt (a, b) (l.take (k + 1)) = c + 1 by rintro rfl rfl; rw [hst, cnt_append, cnt_cons_same, ← hcc'.out]; rfl)
      have hno := Lib.hid (show ((s1, s2) : Int × Int) ≠ (a, b) → cnt (a, b) (l.take (k + 1)) = c by intro hne; rw [hst, cnt_append, cnt_cons_other hne, ← hcc'.out]; rfl)
      clear hs hst
      cases h1 : (s1 == a)
      · go_wp2
        go_quiet (fail)
        go_wp2
        go_roundw
        case rel => exact ⟨k + 1, c, by omega, by go_num, rfl, (hno.out (by intro e; cases e; simp at h1)).symm, below_drewN hbw nq, hA.drewN nq⟩
        case measure => simp [intOf]; omega
      · cases h2 : (s2 == b)
        · go_wp2
          go_quiet (fail)
          go_wp2
          go_roundw
          case rel => exact ⟨k + 1, c, by omega, by go_num, rfl, (hno.out (by intro e; cases e; simp at h2)).symm, below_drewN hbw nq, hA.drewN nq⟩
          case measure => simp [intOf]; omega
        · go_wp2
          go_quiet (fail)
          go_wp2
          go_roundw
          case rel => exact ⟨k + 1, c + 1, by omega, by go_num, by go_num, (hyes.out (by simpa using h1) (by simpa using h2)).symm, below_drewN hbw nq, hA.drewN nq⟩
          case measure => simp [intOf]; omega
    · obtain rfl : k = N := by omega
      have he : c = cnt (a, b) l := by rw [hcc'.out, ← hN'.out, List.take_length]
      have he' := Lib.hid he
      clear he
      go_wp2
      go_ret
      exact ⟨ret_int (by rw [he'.out]), hbw⟩

end Go.Proofs.YthjdacbgcpldjaaDoor.Route

/-
  A region that draws its order, whose first n operations and callees only read (blocks may be laid), beside which new variables are laid, whenever, and whose others stand in one forced order behind all these: it is walked once, in the text's order; where the new blocks lie is left open. Nothing here speaks of a program.
-/
namespace Go.Proofs.YthjdacbgcpldjaaDoor.Float
open Go.Sort Go.RowKit
open Go.Proofs.YthjdacbgcpldjaaDoor.Tail (getD_set least)

/-- A pointer to a block's first cell. -/
def ptr (g : Nat) : Value := .pointer (some ⟨g, 0, none⟩)
/-- The frame, once these new variables are laid: number i at block g. -/
def lay (ds : List Tmp) (done : List (Nat × Nat)) (a : Act) : Act := done.foldl (fun a p => a.put ds[p.1]? (ptr p.2)) a
/-- The worlds that an old one may have grown to. -/
abbrev Cl (w w' : World) : Prop := ∃ p : Regrown, w' = grow (redrawn w p.d) p.os

theorem cl_below {w w' : World} (h : Cl w w') : Below w.heap.size w w' := by
  obtain ⟨p, rfl⟩ := h
  exact below_regrown w p.d p.os
theorem cl_refl (w : World) : Cl w w := regrown_of_below (Below.refl _ _)

/-- The head looks back alone, and not at the new variables; their operations wait for the head alone, if at all; the next one waits for all these, each other one for the one ahead of it. -/
def okB (l : List Oper) (n : Nat) (ds : List Tmp) : Bool :=
  decide (n + ds.length < l.length) && decide ds.Nodup &&
  ((List.range n).all fun j => ((l[j]?).map fun o => ((o.guard.map fun g => decide (g.1 < j)).getD true) && (o.after.toList.all fun e => decide (e.on < j)) && (ds.all fun d => !(o.looksAt l.toArray).contains d && o.dst != some d) &&
    (List.range j).all fun i => ((l[i]?).map fun o' => o.dst == none || o.dst != o'.dst).getD false).getD false) &&
  ((List.range ds.length).all fun i => ((l[n + i]?).map fun o => o.guard.isNone && o.dst == ds[i]? && o.after.toList.all fun e => decide (e.on < n)).getD false) &&
  ((List.range (n + ds.length)).all fun h => (List.range (n + ds.length + 1)).any fun k => decide (h < k) && ((l[k]?).map fun o => o.after.toList.any fun e => Region.binds .any e && decide (e.on = h)).getD false) &&
  ((List.range (l.length - (n + ds.length))).all fun t => t == 0 || ((l[n + ds.length + t]?).map fun o => o.after.toList.any fun e => Region.binds .any e && decide (e.on + 1 = n + ds.length + t)).getD false) &&
  Region.seqB .any l.toArray (l.length - (n + ds.length)) (n + ds.length) (Array.replicate (n + ds.length) true ++ Array.replicate (l.length - (n + ds.length)) false)

structure Ok (l : List Oper) (n : Nat) (ds : List Tmp) : Prop where
  lt : n + ds.length < l.length
  nodup : ds.Nodup
  head : ∀ j o, j < n → l[j]? = some o → (∀ g, o.guard = some g → g.1 < j) ∧ (∀ e ∈ o.after, e.on < j) ∧ (∀ d ∈ ds, d ∉ o.looksAt l.toArray ∧ o.dst ≠ some d)
  apart : ∀ i j o o', i < j → j < n → l[j]? = some o → l[i]? = some o' → o.dst = none ∨ o.dst ≠ o'.dst
  lays : ∀ i o, i < ds.length → l[n + i]? = some o → o.guard = none ∧ o.dst = ds[i]? ∧ ∀ e ∈ o.after, e.on < n
  first : ∀ h, h < n + ds.length → ∃ k o, h < k ∧ k ≤ n + ds.length ∧ l[k]? = some o ∧ ∃ e ∈ o.after, Region.binds .any e = true ∧ e.on = h
  tail : ∀ t o, n + ds.length < t → l[t]? = some o → ∃ e ∈ o.after, Region.binds .any e = true ∧ e.on + 1 = t
  seq : Region.seqB .any l.toArray (l.length - (n + ds.length)) (n + ds.length) (Array.replicate (n + ds.length) true ++ Array.replicate (l.length - (n + ds.length)) false) = true

theorem ok_of {l : List Oper} {n : Nat} {ds : List Tmp} (h : okB l n ds = true) : Ok l n ds := by
  simp only [okB, Bool.and_eq_true, decide_eq_true_eq, List.all_eq_true, List.mem_range] at h
  obtain ⟨⟨⟨⟨⟨⟨h1, h2⟩, h3⟩, h4⟩, h5⟩, h6⟩, h7⟩ := h
  have hd : ∀ j o, j < n → l[j]? = some o → (∀ g, o.guard = some g → g.1 < j) ∧ (∀ e ∈ o.after, e.on < j) ∧ (∀ d ∈ ds, d ∉ o.looksAt l.toArray ∧ o.dst ≠ some d) ∧ ∀ i, i < j → ∀ o', l[i]? = some o' → o.dst = none ∨ o.dst ≠ o'.dst := by
    intro j o hj ho
    have := h3 j hj
    rw [ho] at this
    simp only [Option.map_some, Option.getD_some, Bool.and_eq_true, List.all_eq_true, decide_eq_true_eq, List.mem_range] at this
    obtain ⟨⟨⟨t1, t2⟩, t3⟩, t4⟩ := this
    refine ⟨fun g hg => by rw [hg] at t1; simpa using t1, fun e he => t2 e (by simpa using he), fun d hd => ?_, fun i hi o' ho' => ?_⟩
    · have := t3 d hd
      simp at this
      exact this
    · have := t4 i hi
      rw [ho'] at this
      simp at this
      exact this
  refine ⟨h1, h2, fun j o hj ho => ⟨(hd j o hj ho).1, (hd j o hj ho).2.1, (hd j o hj ho).2.2.1⟩, fun i j o o' hij hj ho ho' => (hd j o hj ho).2.2.2 i hij o' ho', fun i o hi ho => ?_, fun h hh => ?_, fun t o ht ho => ?_, h7⟩
  · have := h4 i hi
    rw [ho] at this
    simp only [Option.map_some, Option.getD_some, Bool.and_eq_true, List.all_eq_true, decide_eq_true_eq, Option.isNone_iff_eq_none, beq_iff_eq] at this
    exact ⟨this.1.1, this.1.2, fun e he => this.2 e (by simpa using he)⟩
  · have h8 := h5 h hh
    rw [List.any_eq_true] at h8
    obtain ⟨i, hi, h9⟩ := h8
    rw [List.mem_range] at hi
    simp only [Bool.and_eq_true, decide_eq_true_eq] at h9
    obtain ⟨h10, h11⟩ := h9
    cases ho : l[i]? with
    | none => rw [ho] at h11; simp at h11
    | some o =>
      rw [ho] at h11
      simp only [Option.map_some, Option.getD_some, List.any_eq_true, Bool.and_eq_true, decide_eq_true_eq] at h11
      obtain ⟨e, he, hb, hon⟩ := h11
      exact ⟨i, o, h10, by omega, ho, e, by simpa using he, hb, hon⟩
  · have hlt : t < l.length := (List.getElem?_eq_some_iff.1 ho).1
    have := h6 (t - (n + ds.length)) (by omega)
    rw [show n + ds.length + (t - (n + ds.length)) = t by omega, ho] at this
    simp only [Option.map_some, Option.getD_some, Bool.or_eq_true, beq_iff_eq, List.any_eq_true, Bool.and_eq_true, decide_eq_true_eq] at this
    rcases this with h | ⟨e, he, hb, hon⟩
    · omega
    · exact ⟨e, by simpa using he, hb, hon⟩

variable {P : Program} {l : List Oper} {n : Nat} {ds : List Tmp}

/-- What the frame holds at the end, where nothing that is to come writes. -/
theorem fin_slot {ops : Array Oper} {C : World → Prop} {af : Act} : ∀ (fuel : Nat) (lh : Array Bool) (a : Act), wpAnyQ P .any ops C (fun a' => a' = af) fuel lh a →
    ∀ d : Tmp, (∀ j o, ops[j]? = some o → lh.getD j true = false → o.dst ≠ some d) → af.tmps[d]? = a.tmps[d]?
  | 0, _, _, h, _, _ => by rw [← h.2]
  | fuel + 1, lh, a, h, d, hd => by
    by_cases hr : Region.ready .any ops lh = []
    · rw [← h.1 hr]
    · obtain ⟨i, hi⟩ := List.exists_mem_of_ne_nil _ hr
      have hq := h.2 i hi
      obtain ⟨hi0, o, ho, _⟩ := mem_ready.1 hi
      have hne : o.dst ≠ some d := hd i o ho hi0
      have hput : ∀ v, (a.put o.dst v).tmps[d]? = a.tmps[d]? := by
        intro v
        unfold Act.put
        cases hdst : o.dst with
        | none => rfl
        | some t =>
          have : t ≠ d := fun e => hne (by rw [hdst, e])
          simp [Array.getElem?_setIfInBounds_ne this]
      have hd' : ∀ j o', ops[j]? = some o' → (lh.setIfInBounds i true).getD j true = false → o'.dst ≠ some d := by
        intro j o' ho' hj
        refine hd j o' ho' ?_
        by_cases hij : i = j
        · subst hij; exact hi0
        · rw [getD_set_ne true hij] at hj; exact hj
      unfold qOp at hq
      rw [ho] at hq
      dsimp only at hq
      split at hq
      · obtain ⟨v, _, hv⟩ := hq
        rw [fin_slot fuel _ _ hv d hd', hput]
      · rw [fin_slot fuel _ _ hq d hd', hput]

theorem put_same {ops : Array Oper} {C C' : World → Prop} {af : Act} {fuel : Nat} {lh : Array Bool} {a : Act} {dst : Option Tmp} {v v' : Value}
    (h : wpAnyQ P .any ops C (fun a' => a' = af) fuel lh (a.put dst v)) (h' : wpAnyQ P .any ops C' (fun a' => a' = af) fuel lh (a.put dst v'))
    (hd : ∀ d, dst = some d → ∀ j o, ops[j]? = some o → lh.getD j true = false → o.dst ≠ some d) : a.put dst v = a.put dst v' := by
  cases dst with
  | none => rfl
  | some d =>
    have e1 := fin_slot fuel lh _ h d (hd d rfl)
    have e2 := fin_slot fuel lh _ h' d (hd d rfl)
    rw [e1] at e2
    simp only [Act.put] at e2 ⊢
    by_cases hlt : d < a.tmps.size
    · have : v = v' := by simpa [hlt] using e2
      rw [this]
    · congr 1
      rw [Array.setIfInBounds_eq_of_size_le (Nat.le_of_not_lt hlt), Array.setIfInBounds_eq_of_size_le (Nat.le_of_not_lt hlt)]

theorem lay_eval {o : Oper} {done : List (Nat × Nat)} {a : Act} (hs : ∀ cs b, o.op ≠ .select cs b) (hd : ∀ d ∈ ds, d ∉ o.looksAt l.toArray) : execOp (lay ds done a).eval o = execOp a.eval o := by
  unfold lay
  induction done generalizing a with
  | nil => rfl
  | cons p done ih =>
    rw [List.foldl_cons, ih]
    exact execOp_put (ops := l.toArray) o hs a _ _ (fun d hd' => hd d (List.mem_of_getElem? hd'))
theorem lay_wanted {o : Oper} {done : List (Nat × Nat)} {a : Act} (hd : ∀ d ∈ ds, d ∉ o.looksAt l.toArray) : Region.wanted o (yielded l.toArray (lay ds done a).tmps) = Region.wanted o (yielded l.toArray a.tmps) := by
  unfold lay
  induction done generalizing a with
  | nil => rfl
  | cons p done ih =>
    rw [List.foldl_cons, ih]
    exact wanted_put (ops := l.toArray) o a _ _ (fun d hd' => hd d (List.mem_of_getElem? hd'))
theorem lay_put {dst : Option Tmp} {done : List (Nat × Nat)} {a : Act} {v : Value} (hd : ∀ d ∈ ds, dst ≠ some d) : (lay ds done a).put dst v = lay ds done (a.put dst v) := by
  unfold lay
  induction done generalizing a with
  | nil => rfl
  | cons p done ih =>
    rw [List.foldl_cons, List.foldl_cons, ih, Act.put_comm]
    intro d hd'
    exact hd d (List.mem_of_getElem? hd')
theorem lay_more {done : List (Nat × Nat)} {a : Act} {i g : Nat} : lay ds (done ++ [(i, g)]) a = (lay ds done a).put ds[i]? (ptr g) := by
  unfold lay
  rw [List.foldl_append]
  rfl

/-- Which have come up: the head's as 'lh' says, the new variables' as 'done' says, none behind. -/
structure Fit (l : List Oper) (n : Nat) (ds : List Tmp) (lh la : Array Bool) (done : List (Nat × Nat)) : Prop where
  size : lh.size = n
  sizeAll : la.size = l.length
  same : ∀ j, j < n → la[j]? = lh[j]?
  laid : ∀ i, i < ds.length → la[n + i]? = some (decide (i ∈ done.map Prod.fst))
  rest : ∀ j, n + ds.length ≤ j → j < l.length → la[j]? = some false
  closed : ∀ (j : Nat) (o : Oper), la[j]? = some true → l[j]? = some o → ∀ e ∈ o.after, Region.binds .any e = true → la.getD e.on false = true

theorem closed_set {l : List Oper} {la : Array Bool} {i : Nat} (h : ∀ (j : Nat) (o : Oper), la[j]? = some true → l[j]? = some o → ∀ e ∈ o.after, Region.binds .any e = true → la.getD e.on false = true)
    (hi : ∀ (o : Oper), l[i]? = some o → ∀ e ∈ o.after, Region.binds .any e = true → la.getD e.on false = true) :
    ∀ (j : Nat) (o : Oper), (la.setIfInBounds i true)[j]? = some true → l[j]? = some o → ∀ e ∈ o.after, Region.binds .any e = true → (la.setIfInBounds i true).getD e.on false = true := by
  intro j o hj ho e he hb
  apply getD_set
  by_cases hij : i = j
  · subst hij
    exact hi o ho e he hb
  · rw [Array.getElem?_setIfInBounds, if_neg hij] at hj
    exact h j o hj ho e he hb

/-- As long as one ahead has not come up, the first behind may not. -/
theorem stuck {l : List Oper} {n : Nat} {ds : List Tmp} (hk : Ok l n ds) {la : Array Bool} (hs : la.size = l.length)
    (hc : ∀ (j : Nat) (o : Oper), la[j]? = some true → l[j]? = some o → ∀ e ∈ o.after, Region.binds .any e = true → la.getD e.on false = true) :
    ∀ (f h : Nat), h < n + ds.length → n + ds.length - h ≤ f → la[h]? = some false → ∀ (o : Oper), l[n + ds.length]? = some o → ¬ ∀ e ∈ o.after, Region.binds .any e = true → la.getD e.on false = true
  | 0, h, hh, hf, _, _, _ => by omega
  | f + 1, h, hh, hf, hu, o, ho => by
    have hlt := hk.lt
    obtain ⟨k, o2, h1, h2, ho2, e, he, hb, hon⟩ := hk.first h hh
    by_cases hkK : k = n + ds.length
    · subst hkK
      have e1 : o2 = o := by rw [ho] at ho2; exact (Option.some.inj ho2).symm
      subst e1
      intro hall
      have h3 := hall e he hb
      rw [Array.getD_eq_getD_getElem?, hon, hu] at h3
      cases h3
    · refine stuck hk hs hc f k (by omega) (by omega) ?_ o ho
      have hkl : k < la.size := by omega
      rw [Array.getElem?_eq_getElem hkl]
      cases hv : la[k]
      · rfl
      · have h3 := hc k o2 (by rw [Array.getElem?_eq_getElem hkl, hv]) ho2 e he hb
        rw [Array.getD_eq_getD_getElem?, hon, hu] at h3
        cases h3

/-- What is known of the world, and of what was laid. -/
structure Laid (w w' : World) (obs : Nat → Obj) (k : Nat) (done : List (Nat × Nat)) : Prop where
  below : Below w.heap.size w w'
  blocks : ∀ p ∈ done, w.heap.size ≤ p.2 ∧ w'.heap[p.2]? = some (obs p.1)
  names : (done.map Prod.fst).Nodup
  apart : (done.map Prod.snd).Nodup
  inside : ∀ p ∈ done, p.1 < k

def cnt (la : Array Bool) (K : Nat) : Nat := (la.toList.take K).count false
theorem cnt_set {la : Array Bool} {K i : Nat} (hi : i < K) (h : la[i]? = some false) : cnt (la.setIfInBounds i true) K + 1 = cnt la K := by
  have hlt : i < la.size := (Array.getElem?_eq_some_iff.1 h).1
  have hv : la[i] = false := (Array.getElem?_eq_some_iff.1 h).2
  unfold cnt
  rw [Array.toList_setIfInBounds, List.take_set, List.count_set (by simp; omega)]
  have hpos : 0 < (la.toList.take K).count false := List.count_pos_iff.2 (List.mem_iff_getElem.2 ⟨i, by simp; omega, by simp [hv]⟩)
  simp [hv]
  omega
theorem cnt_zero {la : Array Bool} {K : Nat} (h : cnt la K = 0) (j : Nat) (hj : j < K) (hl : j < la.size) : la[j]? = some true := by
  rw [Array.getElem?_eq_getElem hl]
  cases hb : la[j]
  · exfalso
    have : 0 < (la.toList.take K).count false := List.count_pos_iff.2 (List.mem_iff_getElem.2 ⟨j, by simp; omega, by simp [hb]⟩)
    unfold cnt at h
    omega
  · rfl
theorem cnt_pos {la : Array Bool} {K f : Nat} (h : cnt la K = f + 1) : ∃ j, j < K ∧ la[j]? = some false := by
  have : false ∈ la.toList.take K := List.count_pos_iff.1 (by unfold cnt at h; omega)
  obtain ⟨j, hj, hb⟩ := List.getElem_of_mem this
  simp at hj hb
  exact ⟨j, by omega, by rw [Array.getElem?_eq_getElem (by omega), hb]⟩

theorem getD_iff {la : Array Bool} {j : Nat} : la.getD j true = false ↔ la[j]? = some false := by
  rw [Array.getD_eq_getD_getElem?]
  cases la[j]? <;> simp
theorem getD_iff' {la : Array Bool} {j : Nat} : la.getD j false = true ↔ la[j]? = some true := by
  rw [Array.getD_eq_getD_getElem?]
  cases la[j]? <;> simp

theorem float_any (hk : Ok l n ds) (hsel : Region.noSelect (l.take n).toArray = true) {obs : Nat → Obj} {w : World} {af : Act} {Q : Exit → Act → World → Prop}
    (hL : ∀ i o, i < ds.length → l[n + i]? = some o → ∀ (a : Act) w', (execOp a.eval o).run P w' = .ok (.value (ptr w'.heap.size)) (w'.alloc (obs i)))
    (hT : ∀ done w', Laid w w' obs ds.length done → (∀ i, i < ds.length → i ∈ done.map Prod.fst) → wpList P l.toArray Q (l.drop (n + ds.length)) (lay ds done af) w') :
    ∀ (fuel : Nat) (lh la : Array Bool) (done : List (Nat × Nat)) (a : Act) (w' : World), Laid w w' obs ds.length done → Fit l n ds lh la done → cnt la (n + ds.length) = fuel →
      (∀ w0, Below w.heap.size w w0 → wpAnyQ P .any (l.take n).toArray (Cl w0) (fun a' => a' = af) (lh.toList.count false) lh a) →
      wpAny P .any l.toArray Q (fuel + (l.length - (n + ds.length))) la (lay ds done a) w'
  | 0, lh, la, done, a, w', hw, hf, hc, hH => by
    have hlt := hk.lt
    have hall : ∀ j, j < n + ds.length → la[j]? = some true := fun j hj => cnt_zero hc j hj (by rw [hf.sizeAll]; omega)
    have hla : la = Array.replicate (n + ds.length) true ++ Array.replicate (l.length - (n + ds.length)) false := by
      apply Array.ext_getElem?
      intro j
      by_cases h1 : j < n + ds.length
      · rw [hall j h1, Array.getElem?_append_left (by simpa using h1)]
        simp [h1]
      · rw [Array.getElem?_append_right (by simpa using (by omega : n + ds.length ≤ j))]
        by_cases h2 : j < l.length
        · rw [hf.rest j (by omega) h2, Array.getElem?_replicate]
          simp
          omega
        · rw [Array.getElem?_eq_none (by rw [hf.sizeAll]; omega), Array.getElem?_eq_none (by simp; omega)]
    have hlh : lh.toList.count false = 0 := by
      rw [List.count_eq_zero]
      intro hm
      obtain ⟨j, hj, hb⟩ := List.getElem_of_mem hm
      have hj' : j < n := by rw [← hf.size]; simpa using hj
      have h1 := hall j (by omega)
      rw [hf.same j hj', Array.getElem?_eq_getElem (by rw [hf.size]; exact hj')] at h1
      simp only [Array.getElem_toList] at hb
      rw [hb] at h1
      cases h1
    have ha := hH w (Below.refl _ _)
    rw [hlh] at ha
    have ha' : a = af := ha.2
    subst ha'
    have hd : ∀ i, i < ds.length → i ∈ done.map Prod.fst := fun i hi => by
      have h1 := hall (n + i) (by omega)
      rw [hf.laid i hi] at h1
      simpa using h1
    subst hla
    have := wpAny_of_seq (P := P) (md := .any) (ops := l.toArray) (Q' := Q) (l.drop (n + ds.length)) (n + ds.length) _ (lay ds done a) w' (fun j => by simp [List.getElem?_drop]) (by simpa using hk.seq) (hT done w' hw hd)
    simpa using this
  | fuel + 1, lh, la, done, a, w', hw, hf, hc, hH => by
    have hlt := hk.lt
    have hgd : ∀ j, j < n → la.getD j true = lh.getD j true := fun j hj => by
      rw [Array.getD_eq_getD_getElem?, Array.getD_eq_getD_getElem?, hf.same j hj]
    have hgd' : ∀ j, j < n → la.getD j false = lh.getD j false := fun j hj => by
      rw [Array.getD_eq_getD_getElem?, Array.getD_eq_getD_getElem?, hf.same j hj]
    obtain ⟨j0, hj0, hj0f⟩ := cnt_pos hc
    -- nothing behind comes up
    have hfront : ∀ i, i ∈ Region.ready .any l.toArray la → i < n + ds.length := by
      intro i hi
      apply Classical.byContradiction
      intro hni
      obtain ⟨hi0, o, ho, hall⟩ := mem_ready.1 hi
      have ho' : l[i]? = some o := by simpa using ho
      by_cases he : i = n + ds.length
      · subst he
        exact stuck hk hf.sizeAll hf.closed _ j0 hj0 (Nat.le_refl _) hj0f o ho' hall
      · obtain ⟨e, he, hb, hon⟩ := hk.tail i o (by omega) ho'
        have h1 := getD_iff'.1 (hall e he hb)
        have hil : i < l.length := (List.getElem?_eq_some_iff.1 ho').1
        rw [hf.rest e.on (by omega) (by omega)] at h1
        cases h1
    -- one may come up
    have hsome : Region.ready .any l.toArray la ≠ [] := by
      by_cases hh : ∃ j, j < n ∧ la.getD j true = false
      · obtain ⟨j, hj, hpj, hmin⟩ := least (p := fun j => la.getD j true) n hh
        have hm : j ∈ Region.ready .any l.toArray la := by
          rw [mem_ready]
          refine ⟨hpj, l[j]'(by omega), by simp [show j < l.length by omega], fun e he _ => ?_⟩
          have h1 := (hk.head j _ hj (List.getElem?_eq_getElem (by omega))).2.1 e he
          have h2 := hmin e.on h1
          rw [getD_iff']
          rw [Array.getD_eq_getD_getElem?] at h2
          have hl2 : e.on < la.size := by rw [hf.sizeAll]; omega
          simp only [Array.getElem?_eq_getElem hl2, Option.getD_some] at h2 ⊢
          rw [h2]
        intro h0
        rw [h0] at hm
        cases hm
      · have hjn : ¬ j0 < n := fun h => hh ⟨j0, h, getD_iff.2 hj0f⟩
        have hm : j0 ∈ Region.ready .any l.toArray la := by
          rw [mem_ready]
          refine ⟨getD_iff.2 hj0f, l[j0]'(by omega), by simp [show j0 < l.length by omega], fun e he _ => ?_⟩
          have h1 := (hk.lays (j0 - n) (l[j0]'(by omega)) (by omega) (by rw [show n + (j0 - n) = j0 by omega]; exact List.getElem?_eq_getElem (by omega))).2.2 e he
          rw [getD_iff']
          have hl2 : e.on < la.size := by rw [hf.sizeAll]; omega
          rw [Array.getElem?_eq_getElem hl2]
          cases hb : la[e.on]
          · exact absurd ⟨e.on, h1, getD_iff.2 (by rw [Array.getElem?_eq_getElem hl2, hb])⟩ hh
          · rfl
        intro h0
        rw [h0] at hm
        cases hm
    rw [show fuel + 1 + (l.length - (n + ds.length)) = (fuel + (l.length - (n + ds.length))) + 1 by omega]
    refine ⟨fun h0 => absurd h0 hsome, fun i hi => ?_⟩
    have hiK := hfront i hi
    obtain ⟨hi0, o, ho, hall⟩ := mem_ready.1 hi
    have ho' : l[i]? = some o := by simpa using ho
    have hif : la[i]? = some false := getD_iff.1 hi0
    have hcs : cnt (la.setIfInBounds i true) (n + ds.length) = fuel := by
      have := cnt_set hiK hif
      omega
    by_cases hin : i < n
    · -- of the head
      have hoh : (l.take n).toArray[i]? = some o := by simp [hin, ho']
      have hlhi : lh[i]? = some false := by rw [← hf.same i hin]; exact hif
      have hcl : lh.toList.count false = (lh.setIfInBounds i true).toList.count false + 1 := by
        have hlt' : i < lh.toList.length := by rw [Array.length_toList, hf.size]; exact hin
        have hv : lh.toList[i] = false := by
          have := (Array.getElem?_eq_some_iff.1 hlhi).2
          simpa using this
        have hpos : 0 < lh.toList.count false := List.count_pos_iff.2 (List.mem_iff_getElem.2 ⟨i, hlt', hv⟩)
        rw [Array.toList_setIfInBounds, List.count_set hlt', hv]
        generalize lh.toList.count false = c at *
        simp
        omega
      have hih : i ∈ Region.ready .any (l.take n).toArray lh := by
        rw [mem_ready]
        refine ⟨by rw [← hgd i hin]; exact hi0, o, hoh, fun e he hb => ?_⟩
        have h1 := (hk.head i o hin ho').2.1 e he
        rw [← hgd' _ (by omega)]
        exact hall e he hb
      have hgu := (hk.head i o hin ho').1
      have hds := (hk.head i o hin ho').2.2
      have hso : ∀ cs b, o.op ≠ .select cs b := fun cs b => Region.noSelect_spec hsel i o cs b hoh
      have hwt : Region.wanted o (yielded (l.take n).toArray a.tmps) = Region.wanted o (yielded l.toArray a.tmps) := by
        unfold Region.wanted
        cases hgo : o.guard with
        | none => rfl
        | some g =>
          have hlt := hgu g hgo
          have e2 : (l.take n).toArray[g.1]? = l.toArray[g.1]? := by simp [show g.1 < n by omega]
          have e3 : yielded (l.take n).toArray a.tmps g.1 = yielded l.toArray a.tmps g.1 := by unfold yielded; rw [e2]
          simp only [e3]
      have hdst : ∀ d, o.dst = some d → ∀ j o', (l.take n).toArray[j]? = some o' → (lh.setIfInBounds i true).getD j true = false → o'.dst ≠ some d := by
        intro d hd j o' hj hun he
        have hjn : j < n := by
          have := (Array.getElem?_eq_some_iff.1 hj).1
          simp at this
          omega
        have hj' : l[j]? = some o' := by simpa [hjn] using hj
        by_cases hij : i = j
        · subst hij
          rw [getD_iff] at hun
          have : i < lh.size := by rw [hf.size]; exact hin
          simp [this] at hun
        · rcases Nat.lt_or_ge i j with h | h
          · rcases hk.apart i j o' o h hjn hj' ho' with h1 | h1
            · rw [h1] at he; cases he
            · exact h1 (by rw [he, hd])
          · rcases hk.apart j i o o' (by omega) hin ho' hj' with h1 | h1
            · rw [h1] at hd; cases hd
            · exact h1 (by rw [he, hd])
      have hq : ∀ w0, Below w.heap.size w w0 → qOp P (l.take n).toArray (Cl w0) i (wpAnyQ P .any (l.take n).toArray (Cl w0) (fun a' => a' = af) ((lh.setIfInBounds i true).toList.count false) (lh.setIfInBounds i true)) a := by
        intro w0 hw0
        have h1 := hH w0 hw0
        rw [hcl] at h1
        exact h1.2 i hih
      have hfit : Fit l n ds (lh.setIfInBounds i true) (la.setIfInBounds i true) done := by
        refine ⟨by simpa using hf.size, by simpa using hf.sizeAll, fun j hj => ?_, fun j hj => ?_, fun j h1 h2 => ?_, closed_set hf.closed (fun o1 ho1 e he hb => by rw [ho'] at ho1; cases ho1; exact hall e he hb)⟩
        · rw [Array.getElem?_setIfInBounds, Array.getElem?_setIfInBounds, hf.same j hj, hf.size, hf.sizeAll]
          by_cases hij : i = j
          · rw [if_pos hij, if_pos hij, if_pos (by omega), if_pos (by omega)]
          · rw [if_neg hij, if_neg hij]
        · rw [Array.getElem?_setIfInBounds, if_neg (by omega)]; exact hf.laid j hj
        · rw [Array.getElem?_setIfInBounds, if_neg (by omega)]; exact hf.rest j h1 h2
      have hnext : ∀ v w2, Below w'.heap.size w' w2 → wpAnyQ P .any (l.take n).toArray (Cl w') (fun a' => a' = af) ((lh.setIfInBounds i true).toList.count false) (lh.setIfInBounds i true) (a.put o.dst v) →
          wpAny P .any l.toArray Q (fuel + (l.length - (n + ds.length))) (la.setIfInBounds i true) ((lay ds done a).put o.dst v) w2 := by
        intro v w2 hb2 hv
        rw [lay_put (fun d hd => (hds d hd).2)]
        have hb := hw.below.trans (hb2.mono hw.below.size)
        refine float_any hk hsel hL hT fuel _ _ done _ w2 ⟨hb, fun p hp => ?_, hw.names, hw.apart, hw.inside⟩ hfit hcs (fun w0 hw0 => ?_)
        · have h1 := hw.blocks p hp
          have h2 : p.2 < w'.heap.size := (Array.getElem?_eq_some_iff.1 h1.2).1
          exact ⟨h1.1, (hb2.block _ h2).trans h1.2⟩
        · have h1 := hq w0 hw0
          unfold qOp at h1
          rw [hoh] at h1
          dsimp only at h1
          split at h1
          · obtain ⟨v0, _, h2⟩ := h1
            rw [put_same hv h2 hdst]
            exact h2
          · rw [put_same hv h1 hdst]
            exact h1
      have hqw := hq w' hw.below
      unfold qOp at hqw
      rw [hoh] at hqw
      dsimp only at hqw
      unfold wpOp
      rw [ho]
      dsimp only
      rw [lay_wanted (fun d hd => (hds d hd).1), ← hwt]
      split
      · rename_i hwant
        rw [if_pos hwant] at hqw
        obtain ⟨v, hv1, hv2⟩ := hqw
        refine .inl (Oper.wp_of_quiet (C := Cl w') (K := fun a2 => a2 = (lay ds done a).put o.dst v) (cl_refl w') (fun a2 w2 hc2 ha2 => ?_) ⟨v, fun w2 hc2 => ?_, rfl⟩)
        · subst ha2
          exact hnext v w2 (cl_below hc2) hv2
        · have := hv1 w2 hc2
          unfold Oper.quietAt at *
          rwa [lay_eval hso (fun d hd => (hds d hd).1)]
      · rename_i hwant
        rw [if_neg hwant] at hqw
        exact hnext undef w' (Below.refl _ _) hqw
    · -- a new variable
      have hii : i - n < ds.length := by omega
      have hoi : l[n + (i - n)]? = some o := by rw [show n + (i - n) = i by omega]; exact ho'
      obtain ⟨hg, hdst, haf⟩ := hk.lays (i - n) o hii hoi
      have hx := hL (i - n) o hii hoi (lay ds done a) w'
      have hnot : i - n ∉ done.map Prod.fst := by
        have h1 := hf.laid (i - n) hii
        rw [show n + (i - n) = i by omega, hif] at h1
        simpa using h1
      unfold wpOp
      rw [ho]
      dsimp only
      have hwant : Region.wanted o (yielded l.toArray (lay ds done a).tmps) = true := by unfold Region.wanted; rw [hg]
      rw [if_pos hwant]
      refine .inl ?_
      unfold Oper.wp
      rw [hx]
      simp only [Oper.upon]
      rw [hdst, ← lay_more]
      refine float_any hk hsel hL hT fuel lh _ _ a _ ⟨hw.below.alloc hw.below.size _, fun p hp => ?_, ?_, ?_, fun p hp => ?_⟩ ⟨hf.size, by simpa using hf.sizeAll, fun j hj => ?_, fun j hj => ?_, fun j h1 h2 => ?_, closed_set hf.closed (fun o1 ho1 e he hb => by rw [ho'] at ho1; cases ho1; exact hall e he hb)⟩ hcs hH
      · rcases List.mem_append.1 hp with hp | hp
        · have h1 := hw.blocks p hp
          have h2 : p.2 < w'.heap.size := (Array.getElem?_eq_some_iff.1 h1.2).1
          exact ⟨h1.1, (Below.heap_alloc w' _ _ h2).trans h1.2⟩
        · have hp' : p = (i - n, w'.heap.size) := by simpa using hp
          subst hp'
          exact ⟨hw.below.size, by show (w'.heap.push _)[w'.heap.size]? = _; simp⟩
      · rw [List.map_append, List.nodup_append]
        refine ⟨hw.names, by simp, fun x hx y hy he => ?_⟩
        have hy' : y = i - n := by simpa using hy
        subst hy' he
        exact hnot hx
      · rw [List.map_append, List.nodup_append]
        refine ⟨hw.apart, by simp, fun x hx y hy he => ?_⟩
        have hy' : y = w'.heap.size := by simpa using hy
        subst hy' he
        obtain ⟨p, hp, hpx⟩ := List.mem_map.1 hx
        have h2 : p.2 < w'.heap.size := (Array.getElem?_eq_some_iff.1 (hw.blocks p hp).2).1
        omega
      · rcases List.mem_append.1 hp with hp | hp
        · exact hw.inside p hp
        · have hp' : p = (i - n, w'.heap.size) := by simpa using hp
          subst hp'
          exact hii
      · rw [Array.getElem?_setIfInBounds, if_neg (by omega)]; exact hf.same j hj
      · rw [Array.getElem?_setIfInBounds]
        by_cases hij : i = n + j
        · rw [if_pos hij, if_pos (by rw [hf.sizeAll]; omega)]
          simp
          right
          omega
        · rw [if_neg hij, hf.laid j hj]
          simp
          omega
      · rw [Array.getElem?_setIfInBounds, if_neg (by omega)]; exact hf.rest j h1 h2

/-- **A region that draws, beside whose quiet head new variables are laid.** -/
theorem wp_region_float {id : Nat} {Q : Exit → Act → World → Prop} {a : Act} {w : World} (n : Nat) (ds : List Tmp) (obs : Nat → Obj) (af : Act) (hm : P.follows .mixedOrders = true) (hB : Region.lexB .any (l.take n).toArray = true) (hO : okB l n ds = true)
    (hL : ∀ i o, i < ds.length → l[n + i]? = some o → ∀ (a : Act) w', (execOp a.eval o).run P w' = .ok (.value (ptr w'.heap.size)) (w'.alloc (obs i)))
    (hW : ∀ w0, Below w.heap.size w w0 → wpQuiet P (l.take n).toArray (fun w' => ∃ p : Regrown, w' = grow (redrawn w0 p.d) p.os) (fun a' => a' = af) (l.take n) a)
    (hT : ∀ done w', Laid w w' obs ds.length done → (∀ i, i < ds.length → i ∈ done.map Prod.fst) → wpList P l.toArray Q (l.drop (n + ds.length)) (lay ds done af) w') : (Code.region id l.toArray true).wp P Q a w := by
  have hk := ok_of hO
  have hlt := hk.lt
  simp only [Region.lexB, Bool.and_eq_true] at hB
  have hlen : (l.take n).length = n := by simp; omega
  refine wp_region_any hm ?_
  have h2 := float_any (P := P) (Q := Q) (w := w) (obs := obs) (af := af) hk hB.1 hL hT (n + ds.length) (Array.replicate n false) (Array.replicate l.length false) [] a { w with drawn := w.drawn + 1 }
    ⟨(Below.refl _ w).drew, fun p hp => (by cases hp), by simp, by simp, fun p hp => (by cases hp)⟩
    ⟨by simp, by simp, fun j hj => by rw [Array.getElem?_replicate, Array.getElem?_replicate, if_pos hj, if_pos (by omega)], fun i hi => by rw [Array.getElem?_replicate, if_pos (by omega)]; simp, fun j h1 h2 => by simp [h2], fun j o hj => by rw [Array.getElem?_replicate] at hj; split at hj <;> cases hj⟩
    (by unfold cnt; simp; omega)
    (fun w0 hw0 => by
      have h1 := wpAnyQ_lex (P := P) (C := Cl w0) (md := .any) (ops := (l.take n).toArray) hB.1 (l.take n) 0 (Array.replicate n false) a (by simp) (by simpa [hlen] using hB.2) (hW w0 hw0)
      rw [hlen] at h1
      simpa using h1)
  rw [show n + ds.length + (l.length - (n + ds.length)) = l.length by omega] at h2
  simpa [lay] using h2

theorem done_one {w w' : World} {obs : Nat → Obj} {done : List (Nat × Nat)} (h : Laid w w' obs 1 done) (hd : ∀ i, i < 1 → i ∈ done.map Prod.fst) : ∃ g, done = [(0, g)] := by
  obtain ⟨_, _, hn, _, hi⟩ := h
  cases done with
  | nil => simp at hd
  | cons p done =>
    have h0 : p.1 = 0 := by have := hi p (by simp); omega
    cases done with
    | nil => exact ⟨p.2, by rw [← h0]⟩
    | cons q done =>
      have h1 : q.1 = 0 := by have := hi q (by simp); omega
      simp [h0, h1] at hn

theorem done_two {w w' : World} {obs : Nat → Obj} {done : List (Nat × Nat)} (h : Laid w w' obs 2 done) (hd : ∀ i, i < 2 → i ∈ done.map Prod.fst) : ∃ g h, done = [(0, g), (1, h)] ∨ done = [(1, h), (0, g)] := by
  obtain ⟨_, _, hn, _, hi⟩ := h
  have d0 := hd 0 (by omega)
  have d1 := hd 1 (by omega)
  cases done with
  | nil => simp at d0
  | cons p done =>
    cases done with
    | nil => simp at d0 d1; omega
    | cons q done =>
      have hp := hi p (by simp)
      have hq := hi q (by simp)
      have hne : p.1 ≠ q.1 := by intro he; simp [he] at hn
      cases done with
      | nil =>
        obtain ⟨p1, p2⟩ := p
        obtain ⟨q1, q2⟩ := q
        simp only at hp hq hne
        by_cases hp0 : p1 = 0
        · subst hp0
          have : q1 = 1 := by omega
          subst this
          exact ⟨p2, q2, .inl rfl⟩
        · have h1 : p1 = 1 := by omega
          have h2 : q1 = 0 := by omega
          subst h1 h2
          exact ⟨q2, p2, .inr rfl⟩
      | cons r done =>
        have hr := hi r (by simp)
        have h1 : p.1 ≠ r.1 := by intro he; simp [he] at hn
        have h2 : q.1 ≠ r.1 := by intro he; simp [he] at hn
        omega

/-- The same, one new variable. -/
theorem wp_region_float1 {id : Nat} {Q : Exit → Act → World → Prop} {a : Act} {w : World} (n : Nat) (d : Tmp) (ob : Obj) (af : Act) (hm : P.follows .mixedOrders = true) (hB : Region.lexB .any (l.take n).toArray = true) (hO : okB l n [d] = true)
    (hL : ∀ o, l[n]? = some o → ∀ (a : Act) w', (execOp a.eval o).run P w' = .ok (.value (ptr w'.heap.size)) (w'.alloc ob))
    (hW : ∀ w0, Below w.heap.size w w0 → wpQuiet P (l.take n).toArray (fun w' => ∃ p : Regrown, w' = grow (redrawn w0 p.d) p.os) (fun a' => a' = af) (l.take n) a)
    (hT : ∀ g w', w.heap.size ≤ g → w'.heap[g]? = some ob → Below w.heap.size w w' → wpList P l.toArray Q (l.drop (n + 1)) (af.put (some d) (.pointer (some ⟨g, 0, none⟩))) w') : (Code.region id l.toArray true).wp P Q a w := by
  refine wp_region_float n [d] (fun _ => ob) af hm hB hO (fun i o hi ho => ?_) hW (fun done w' hw hd => ?_)
  · have : i = 0 := by simpa using hi
    subst this
    exact hL o ho
  · obtain ⟨g, rfl⟩ := done_one hw hd
    have h1 := hw.blocks (0, g) (by simp)
    exact hT g w' h1.1 h1.2 hw.below

/-- The same, two new variables. -/
theorem wp_region_float2 {id : Nat} {Q : Exit → Act → World → Prop} {a : Act} {w : World} (n : Nat) (d e : Tmp) (ob oc : Obj) (af : Act) (hm : P.follows .mixedOrders = true) (hB : Region.lexB .any (l.take n).toArray = true) (hO : okB l n [d, e] = true)
    (hL : ∀ o, l[n]? = some o → ∀ (a : Act) w', (execOp a.eval o).run P w' = .ok (.value (ptr w'.heap.size)) (w'.alloc ob))
    (hL2 : ∀ o, l[n + 1]? = some o → ∀ (a : Act) w', (execOp a.eval o).run P w' = .ok (.value (ptr w'.heap.size)) (w'.alloc oc))
    (hW : ∀ w0, Below w.heap.size w w0 → wpQuiet P (l.take n).toArray (fun w' => ∃ p : Regrown, w' = grow (redrawn w0 p.d) p.os) (fun a' => a' = af) (l.take n) a)
    (hT : ∀ g h w', g ≠ h → w.heap.size ≤ g → w.heap.size ≤ h → w'.heap[g]? = some ob → w'.heap[h]? = some oc → Below w.heap.size w w' → wpList P l.toArray Q (l.drop (n + 2)) ((af.put (some d) (.pointer (some ⟨g, 0, none⟩))).put (some e) (.pointer (some ⟨h, 0, none⟩))) w') : (Code.region id l.toArray true).wp P Q a w := by
  have hk := ok_of hO
  refine wp_region_float n [d, e] (fun i => if i = 0 then ob else oc) af hm hB hO (fun i o hi ho => ?_) hW (fun done w' hw hd => ?_)
  · have hi' : i < 2 := by simpa using hi
    by_cases h0 : i = 0
    · subst h0
      exact hL o ho
    · have : i = 1 := by omega
      subst this
      exact hL2 o ho
  · obtain ⟨g, h, he⟩ := done_two hw hd
    have hg : w.heap.size ≤ g ∧ w'.heap[g]? = some ob := by
      have := hw.blocks (0, g) (by rcases he with rfl | rfl <;> simp)
      simpa using this
    have hh : w.heap.size ≤ h ∧ w'.heap[h]? = some oc := by
      have := hw.blocks (1, h) (by rcases he with rfl | rfl <;> simp)
      simpa using this
    have hne : g ≠ h := by
      intro hgh
      have := hw.apart
      rcases he with rfl | rfl <;> simp [hgh] at this
    have hde : d ≠ e := by
      have := hk.nodup
      simpa using this
    have hT' := hT g h w' hne hg.1 hh.1 hg.2 hh.2 hw.below
    rcases he with rfl | rfl
    · exact hT'
    · have e1 : lay [d, e] [(1, h), (0, g)] af = (af.put (some d) (ptr g)).put (some e) (ptr h) := by
        show (af.put (some e) (ptr h)).put (some d) (ptr g) = _
        rw [Act.put_comm]
        intro t ht hc
        cases ht
        cases hc
        exact hde rfl
      rw [e1]
      exact hT'

end Go.Proofs.YthjdacbgcpldjaaDoor.Float

import Derived.Test.YteefkijmodcijaaDoorPkFeasSomeLaw11
import Derived.Deep.RegionHeld3
import Derived.BigRegion
import Derived.Test.YteefkijmodcijaaDoorPkFeasSomeLaw6
import Derived.Test.YteefkijmodcijaaDoorPkFeasSomeLaw9

/-
  Contracts of package place's distance, and what is wanted where a place is a result.
-/
namespace Go.Proofs.YteefkijmodcijaaDoor.Place
open Go.RowKit
set_option linter.unusedVariables false

theorem res_place {fn : Func} {p : Tmp} (h : fn.results = #[.cell p 32]) {tmps : Array Value} {w : World} {g : Nat} {x y : Value} (hp : tmps.getD p undef = .pointer (some ⟨g, 0, none⟩))
    (c0 : w.cell? ⟨g, 0, none⟩ = some x) (c1 : w.cell? ⟨g, 1, none⟩ = some y) : (results fn tmps).run Tryd.prog w = .ok (.agg #[x, y]) w := by
  have hp' : tmps[p]?.getD undef = .pointer (some ⟨g, 0, none⟩) := by simpa using hp
  simp only [results, h]
  go_simp

theorem refDist_any (ax ay bx by_ : Int) (w : World) :
    Calls Tryd.prog 29 #[.agg #[.int .i64 ax, .int .i64 ay], .agg #[.int .i64 bx, .int .i64 by_]] w fun e w' => e = .returned (.int .i64 (distV (ax, ay) (bx, by_))) ∧ Below w.heap.size w w' := by
  have hb0 : Below w.heap.size w ((w.alloc (.cells #[.int .i64 ax, .int .i64 ay] 32)).alloc (.cells #[.int .i64 bx, .int .i64 by_] 32)) := ((Below.refl _ _).alloc (Nat.le_refl _) _).alloc (by simp) _
  cases h1 : mayB (ax, ay)
  · have hd := Lib.hid (distV_no1 (b := (bx, by_)) h1)
    go_enter Tryd.func29, Tryd.ntmps29
    go_wp2_with fail
    refine (refMay_any _ _ _).mono ?_
    rintro e w1 ⟨rfl, hb1⟩
    rw [h1]
    go_wp2
    go_ret
    exact ⟨ret_int hd.out.symm, hb0.trans (hb1.mono hb0.size)⟩
  · cases h2 : mayB (bx, by_)
    · have hd := Lib.hid (distV_no2 (a := (ax, ay)) h2)
      go_enter Tryd.func29, Tryd.ntmps29
      go_wp2_with fail
      refine (refMay_any _ _ _).mono ?_
      rintro e w1 ⟨rfl, hb1⟩
      rw [h1]
      have c3 := (hb1.cell (p := ⟨w.heap.size + 1, 0, none⟩) (by simp)).trans (show _ = some (.int .i64 bx) by go_simp)
      have c4 := (hb1.cell (p := ⟨w.heap.size + 1, 1, none⟩) (by simp)).trans (show _ = some (.int .i64 by_) by go_simp)
      go_wp2_with fail
      refine (refMay_any _ _ _).mono ?_
      rintro e w2 ⟨rfl, hb2⟩
      rw [h2]
      go_wp2
      go_ret
      exact ⟨ret_int hd.out.symm, (hb0.trans (hb1.mono hb0.size)).trans (hb2.mono (hb0.trans (hb1.mono hb0.size)).size)⟩
    · have hd := Lib.hid (distV_yes h1 h2)
      have m1 := (mayB_iff _).1 h1
      have m2 := (mayB_iff _).1 h2
      simp only at m1 m2
      go_enter Tryd.func29, Tryd.ntmps29
      go_wp2_with fail
      refine (refMay_any _ _ _).mono ?_
      rintro e w1 ⟨rfl, hb1⟩
      rw [h1]
      have c3 := (hb1.cell (p := ⟨w.heap.size + 1, 0, none⟩) (by simp)).trans (show _ = some (.int .i64 bx) by go_simp)
      have c4 := (hb1.cell (p := ⟨w.heap.size + 1, 1, none⟩) (by simp)).trans (show _ = some (.int .i64 by_) by go_simp)
      go_wp2_with fail
      refine (refMay_any _ _ _).mono ?_
      rintro e w2 ⟨rfl, hb2⟩
      rw [h2]
      have d1 := (hb2.cell (p := ⟨w.heap.size, 0, none⟩) (Nat.lt_of_lt_of_le (by simp; omega) hb1.size)).trans ((hb1.cell (p := ⟨w.heap.size, 0, none⟩) (by simp; omega)).trans (show _ = some (.int .i64 ax) by go_simp))
      have d2 := (hb2.cell (p := ⟨w.heap.size, 1, none⟩) (Nat.lt_of_lt_of_le (by simp; omega) hb1.size)).trans ((hb1.cell (p := ⟨w.heap.size, 1, none⟩) (by simp; omega)).trans (show _ = some (.int .i64 ay) by go_simp))
      have d3 := (hb2.cell (p := ⟨w.heap.size + 1, 0, none⟩) (Nat.lt_of_lt_of_le (by simp) hb1.size)).trans c3
      have d4 := (hb2.cell (p := ⟨w.heap.size + 1, 1, none⟩) (Nat.lt_of_lt_of_le (by simp) hb1.size)).trans c4
      clear c3 c4
      have hB : Below w.heap.size w w2 := (hb0.trans (hb1.mono hb0.size)).trans (hb2.mono (hb0.trans (hb1.mono hb0.size)).size)
      have g1 := gap_side m1.1 m2.1
      have g2 := gap_side m1.2 m2.2
      clear hb1 hb2 hb0
      go_wp2
      go_quiet ((go_at_call 54; refine Calls.quiet_of_same (refApart_any _ _ (by omega) (by omega) _)))
      go_wp2
      go_ret
      exact ⟨ret_int hd.out.symm, below_drewN hB nq⟩

theorem i64_wrap {n : Int} (h1 : -9223372036854775808 ≤ n) (h2 : n ≤ 9223372036854775807) : IntKind.i64.wrap n = n := by
  simp [IntKind.wrap, IntKind.bits, IntKind.signed]
  omega

end Go.Proofs.YteefkijmodcijaaDoor.Place

/-
  What memory holds of requests, vehicles, visits and times; contracts of package sched's visitOf, Place and Window.
-/
namespace Go.Proofs.YteefkijmodcijaaDoor.When
open Go.RowKit Go.Proofs.YteefkijmodcijaaDoor.Mem Go.Proofs.YteefkijmodcijaaDoor.Route
set_option linter.unusedVariables false

def rqV (q : Rq) : List Value := [.int .i64 q.fx, .int .i64 q.fy, .int .i64 q.tx, .int .i64 q.ty, .int .i64 q.pe, .int .i64 q.pl, .int .i64 q.de, .int .i64 q.dl, .int .i64 q.ld, .int .i64 q.sv]
def tmC (x : Tm) : List Value := [.int .i64 x.ar, .int .i64 x.be, .int .i64 x.lv]
/-- A row of requests; a row of times. -/
def Rqs (B : Nat) (W : World) (v : Value) (t : List Rq) : Prop := RowB B W v 10 (t.map rqV)
def Tms (B : Nat) (W : World) (v : Value) (l : List Tm) : Prop := RowB B W v 3 (l.map tmC)
theorem Rqs.keep {B C : Nat} {W W' : World} {v : Value} {l : List Rq} (h : Rqs B W v l) (hb : Below C W W') (hB : B ≤ C) : Rqs B W' v l := RowB.keep h hb hB
theorem Rqs.more {B C : Nat} {W : World} {v : Value} {l : List Rq} (h : Rqs B W v l) (hB : B ≤ C) : Rqs C W v l := RowB.more h hB
theorem Rqs.on {W W' : World} {v : Value} {l : List Rq} (h : Rqs W.heap.size W v l) (hb : Below W.heap.size W W') : Rqs W'.heap.size W' v l := RowB.on h hb
theorem Tms.keep {B C : Nat} {W W' : World} {v : Value} {l : List Tm} (h : Tms B W v l) (hb : Below C W W') (hB : B ≤ C) : Tms B W' v l := RowB.keep h hb hB
theorem Tms.on {W W' : World} {v : Value} {l : List Tm} (h : Tms W.heap.size W v l) (hb : Below W.heap.size W W') : Tms W'.heap.size W' v l := RowB.on h hb
theorem Rqs.opened {B : Nat} {W : World} {v : Value} {t : List Rq} (h : Rqs B W v t) : ∃ x N cap, v = .slice x N cap ∧ t.length = N ∧ N ≤ cap ∧ cap ≤ maxLen ∧ (x = none → t = []) := by
  obtain ⟨x, cap, rfl, h1, h2, h0, _⟩ := h
  refine ⟨x, t.length, cap, by simp, rfl, by simpa using h1, h2, fun e => ?_⟩
  have := h0 e
  simpa using this.1
theorem Tms.opened {B : Nat} {W : World} {v : Value} {t : List Tm} (h : Tms B W v t) : ∃ x N cap, v = .slice x N cap ∧ t.length = N ∧ N ≤ cap ∧ cap ≤ maxLen ∧ (x = none → t = []) := by
  obtain ⟨x, cap, rfl, h1, h2, h0, _⟩ := h
  refine ⟨x, t.length, cap, by simp, rfl, by simpa using h1, h2, fun e => ?_⟩
  have := h0 e
  simpa using this.1
/-- The k-th request's cells. -/
theorem Rqs.at {B : Nat} {W : World} {x : Option Addr} {n cap : Nat} {t : List Rq} (h : Rqs B W (.slice x n cap) t) {k : Nat} {q : Rq} (hk : t[k]? = some q) :
    ∃ g o, x = some ⟨g, o, none⟩ ∧ g < B ∧ (W.cell? ⟨g, o + k * 10, none⟩ = some (.int .i64 q.fx) ∧ W.cell? ⟨g, o + k * 10 + 1, none⟩ = some (.int .i64 q.fy) ∧ W.cell? ⟨g, o + k * 10 + 2, none⟩ = some (.int .i64 q.tx) ∧ W.cell? ⟨g, o + k * 10 + 3, none⟩ = some (.int .i64 q.ty)
      ∧ W.cell? ⟨g, o + k * 10 + 4, none⟩ = some (.int .i64 q.pe) ∧ W.cell? ⟨g, o + k * 10 + 5, none⟩ = some (.int .i64 q.pl) ∧ W.cell? ⟨g, o + k * 10 + 6, none⟩ = some (.int .i64 q.de) ∧ W.cell? ⟨g, o + k * 10 + 7, none⟩ = some (.int .i64 q.dl)
      ∧ W.cell? ⟨g, o + k * 10 + 8, none⟩ = some (.int .i64 q.ld) ∧ W.cell? ⟨g, o + k * 10 + 9, none⟩ = some (.int .i64 q.sv)) := by
  obtain ⟨g, o, e, hg, hc⟩ := RowB.row h (j := k) (r := rqV q) (by rw [List.getElem?_map, hk]; rfl)
  exact ⟨g, o, e, hg, hc 0 _ rfl, hc 1 _ rfl, hc 2 _ rfl, hc 3 _ rfl, hc 4 _ rfl, hc 5 _ rfl, hc 6 _ rfl, hc 7 _ rfl, hc 8 _ rfl, hc 9 _ rfl⟩
theorem Tms.at {B : Nat} {W : World} {x : Option Addr} {n cap : Nat} {t : List Tm} (h : Tms B W (.slice x n cap) t) {k : Nat} {q : Tm} (hk : t[k]? = some q) :
    ∃ g o, x = some ⟨g, o, none⟩ ∧ g < B ∧ (W.cell? ⟨g, o + k * 3, none⟩ = some (.int .i64 q.ar) ∧ W.cell? ⟨g, o + k * 3 + 1, none⟩ = some (.int .i64 q.be) ∧ W.cell? ⟨g, o + k * 3 + 2, none⟩ = some (.int .i64 q.lv)) := by
  obtain ⟨g, o, e, hg, hc⟩ := RowB.row h (j := k) (r := tmC q) (by rw [List.getElem?_map, hk]; rfl)
  exact ⟨g, o, e, hg, hc 0 _ rfl, hc 1 _ rfl, hc 2 _ rfl⟩

theorem put10 {w : World} {g : Nat} {t : TypeId} {x0 x1 x2 x3 x4 x5 x6 x7 x8 x9 y0 y1 y2 y3 y4 y5 y6 y7 y8 y9 : Value} (h : At w g t #[x0, x1, x2, x3, x4, x5, x6, x7, x8, x9]) :
    At ((((((((((w.setCell ⟨g, 0, none⟩ y0).setCell ⟨g, 1, none⟩ y1).setCell ⟨g, 2, none⟩ y2).setCell ⟨g, 3, none⟩ y3).setCell ⟨g, 4, none⟩ y4).setCell ⟨g, 5, none⟩ y5).setCell ⟨g, 6, none⟩ y6).setCell ⟨g, 7, none⟩ y7).setCell ⟨g, 8, none⟩ y8).setCell ⟨g, 9, none⟩ y9) g t #[y0, y1, y2, y3, y4, y5, y6, y7, y8, y9] := by
  simpa using (((((((((h.put 0 y0).put 1 y1).put 2 y2).put 3 y3).put 4 y4).put 5 y5).put 6 y6).put 7 y7).put 8 y8).put 9 y9
theorem put5 {w : World} {g : Nat} {t : TypeId} {x0 x1 x2 x3 x4 y0 y1 y2 y3 y4 : Value} (h : At w g t #[x0, x1, x2, x3, x4]) :
    At (((((w.setCell ⟨g, 0, none⟩ y0).setCell ⟨g, 1, none⟩ y1).setCell ⟨g, 2, none⟩ y2).setCell ⟨g, 3, none⟩ y3).setCell ⟨g, 4, none⟩ y4) g t #[y0, y1, y2, y3, y4] := by
  simpa using ((((h.put 0 y0).put 1 y1).put 2 y2).put 3 y3).put 4 y4
theorem put3 {w : World} {g : Nat} {t : TypeId} {x0 x1 x2 y0 y1 y2 : Value} (h : At w g t #[x0, x1, x2]) :
    At (((w.setCell ⟨g, 0, none⟩ y0).setCell ⟨g, 1, none⟩ y1).setCell ⟨g, 2, none⟩ y2) g t #[y0, y1, y2] := by
  simpa using ((h.put 0 y0).put 1 y1).put 2 y2
theorem put2 {w : World} {g : Nat} {t : TypeId} {x0 x1 y0 y1 : Value} (h : At w g t #[x0, x1]) : At ((w.setCell ⟨g, 0, none⟩ y0).setCell ⟨g, 1, none⟩ y1) g t #[y0, y1] := by simpa using (h.put 0 y0).put 1 y1

/-- A struct's cells, and a Bool, as results. -/
theorem res_visit {fn : Func} {p c : Tmp} (h : fn.results = #[.cell p 123, .tmp c]) {tmps : Array Value} {w : World} {g : Nat} {x0 x1 x2 x3 x4 b : Value} (hp : tmps.getD p undef = .pointer (some ⟨g, 0, none⟩)) (hc : tmps.getD c undef = b)
    (c0 : w.cell? ⟨g, 0, none⟩ = some x0) (c1 : w.cell? ⟨g, 1, none⟩ = some x1) (c2 : w.cell? ⟨g, 2, none⟩ = some x2) (c3 : w.cell? ⟨g, 3, none⟩ = some x3) (c4 : w.cell? ⟨g, 4, none⟩ = some x4) : (results fn tmps).run Tryd.prog w = .ok (.tuple #[.agg #[x0, x1, x2, x3, x4], b]) w := by
  have hp' : tmps[p]?.getD undef = .pointer (some ⟨g, 0, none⟩) := by simpa using hp
  have hc' : tmps[c]?.getD undef = b := by simpa using hc
  simp only [results, h]
  go_simp
theorem res_pl {fn : Func} {p c : Tmp} (h : fn.results = #[.cell p 32, .tmp c]) {tmps : Array Value} {w : World} {g : Nat} {x0 x1 b : Value} (hp : tmps.getD p undef = .pointer (some ⟨g, 0, none⟩)) (hc : tmps.getD c undef = b)
    (c0 : w.cell? ⟨g, 0, none⟩ = some x0) (c1 : w.cell? ⟨g, 1, none⟩ = some x1) : (results fn tmps).run Tryd.prog w = .ok (.tuple #[.agg #[x0, x1], b]) w := by
  have hp' : tmps[p]?.getD undef = .pointer (some ⟨g, 0, none⟩) := by simpa using hp
  have hc' : tmps[c]?.getD undef = b := by simpa using hc
  simp only [results, h]
  go_simp
theorem res_wi {fn : Func} {p c : Tmp} (h : fn.results = #[.cell p 60, .tmp c]) {tmps : Array Value} {w : World} {g : Nat} {x0 x1 b : Value} (hp : tmps.getD p undef = .pointer (some ⟨g, 0, none⟩)) (hc : tmps.getD c undef = b)
    (c0 : w.cell? ⟨g, 0, none⟩ = some x0) (c1 : w.cell? ⟨g, 1, none⟩ = some x1) : (results fn tmps).run Tryd.prog w = .ok (.tuple #[.agg #[x0, x1], b]) w := by
  have hp' : tmps[p]?.getD undef = .pointer (some ⟨g, 0, none⟩) := by simpa using hp
  have hc' : tmps[c]?.getD undef = b := by simpa using hc
  simp only [results, h]
  go_simp

theorem ret_vi {a0 a1 a2 a3 a4 b0 b1 b2 b3 b4 : Int} {c d : Bool} (h0 : a0 = b0) (h1 : a1 = b1) (h2 : a2 = b2) (h3 : a3 = b3) (h4 : a4 = b4) (h : c = d) :
    Ending.returned (.tuple #[.agg #[.int .i64 a0, .int .i64 a1, .int .i64 a2, .int .i64 a3, .int .i64 a4], .bool c]) = .returned (.tuple #[.agg #[.int .i64 b0, .int .i64 b1, .int .i64 b2, .int .i64 b3, .int .i64 b4], .bool d]) := by rw [h0, h1, h2, h3, h4, h]
theorem ret_two {a0 a1 b0 b1 : Int} {c d : Bool} (h0 : a0 = b0) (h1 : a1 = b1) (h : c = d) :
    Ending.returned (.tuple #[.agg #[.int .i64 a0, .int .i64 a1], .bool c]) = .returned (.tuple #[.agg #[.int .i64 b0, .int .i64 b1], .bool d]) := by rw [h0, h1, h]

theorem vis_none {t : List Rq} {s : Int × Int} (h : visO t s = none) : visV t s = noVi ∧ visB t s = false := by simp [visV, visB, h]
theorem vis_some {t : List Rq} {s : Int × Int} {x : Vi} (h : visO t s = some x) : visV t s = x ∧ visB t s = true := by simp [visV, visB, h]

set_option maxHeartbeats 1000000 in
theorem visitOf_any (s1 s2 : Int) (v : Value) (t : List Rq) (w : World) (h : Rqs w.heap.size w v t) :
    Calls Tryd.prog 61 #[.agg #[.int .i64 s1, .int .i64 s2], v] w fun e w' => e = .returned (.tuple #[.agg #[.int .i64 (visV t (s1, s2)).px, .int .i64 (visV t (s1, s2)).py, .int .i64 (visV t (s1, s2)).we, .int .i64 (visV t (s1, s2)).wl, .int .i64 (visV t (s1, s2)).sv], .bool (visB t (s1, s2))]) ∧ Below w.heap.size w w' := by
  obtain ⟨x, N, cap, rfl, hN, hc1, hc2, hx⟩ := h.opened
  by_cases h1 : s1 < 0
  · have ho := vis_none (visO_out (t := t) (s := (s1, s2)) (by simp [inT]; omega))
    rw [ho.1, ho.2]
    clear ho h hN hx
    go_enter Tryd.func61, Tryd.ntmps61
    go_wp2
    refine bodyPost_ret (res_visit rfl rfl rfl (x0 := .int .i64 0) (x1 := .int .i64 0) (x2 := .int .i64 0) (x3 := .int .i64 0) (x4 := .int .i64 0) (by go_simp) (by go_simp) (by go_simp) (by go_simp) (by go_simp)) rfl ?_
    exact ⟨ret_vi rfl rfl rfl rfl rfl rfl, by repeat (first | exact Below.refl _ _ | refine Below.alloc ?_ (by simp <;> omega) _ | refine Below.setCell ?_ (by simp <;> omega) _)⟩
  · by_cases h2 : (N : Int) ≤ s1
    · have ho := vis_none (visO_out (t := t) (s := (s1, s2)) (by simp [inT]; omega))
      rw [ho.1, ho.2]
      clear ho h hN hx
      go_enter Tryd.func61, Tryd.ntmps61
      go_wp2
      refine bodyPost_ret (res_visit rfl rfl rfl (x0 := .int .i64 0) (x1 := .int .i64 0) (x2 := .int .i64 0) (x3 := .int .i64 0) (x4 := .int .i64 0) (by go_simp) (by go_simp) (by go_simp) (by go_simp) (by go_simp)) rfl ?_
      exact ⟨ret_vi rfl rfl rfl rfl rfl rfl, by repeat (first | exact Below.refl _ _ | refine Below.alloc ?_ (by simp <;> omega) _ | refine Below.setCell ?_ (by simp <;> omega) _)⟩
    · have hi : inT t s1 = true := by simp [inT]; omega
      obtain ⟨q, hq, _, _⟩ := inT_get hi
      obtain ⟨k, rfl⟩ : ∃ k : Nat, s1 = k := ⟨s1.toNat, by omega⟩
      simp only [Int.toNat_natCast] at hq
      obtain ⟨g, o, rfl, hg, c0, c1, c2, c3, c4, c5, c6, c7, c8, c9⟩ := h.at hq
      have hk : k < N := by omega
      have hk2 : ((k : Int) < N) := by omega
      by_cases e0 : s2 = 0
      · have ho := vis_some (visO_pick (t := t) (s := (k, s2)) (q := q) hi (by simpa using hq) e0)
        rw [ho.1, ho.2]
        subst e0
        clear ho h hN hx hq hi
        go_enter Tryd.func61, Tryd.ntmps61
        go_wp2
        refine bodyPost_ret (res_visit rfl rfl rfl (x0 := .int .i64 q.fx) (x1 := .int .i64 q.fy) (x2 := .int .i64 q.pe) (x3 := .int .i64 q.pl) (x4 := .int .i64 q.sv) (by go_simp) (by go_simp) (by go_simp) (by go_simp) (by go_simp)) rfl ?_
        exact ⟨ret_vi rfl rfl rfl rfl rfl rfl, by repeat (first | exact Below.refl _ _ | refine Below.alloc ?_ (by simp <;> omega) _ | refine Below.setCell ?_ (by simp <;> omega) _)⟩
      · by_cases e1 : s2 = 1
        · have ho := vis_some (visO_drop (t := t) (s := (k, s2)) (q := q) hi (by simpa using hq) e1)
          rw [ho.1, ho.2]
          subst e1
          clear ho h hN hx hq hi
          go_enter Tryd.func61, Tryd.ntmps61
          go_wp2
          refine bodyPost_ret (res_visit rfl rfl rfl (x0 := .int .i64 q.tx) (x1 := .int .i64 q.ty) (x2 := .int .i64 q.de) (x3 := .int .i64 q.dl) (x4 := .int .i64 q.sv) (by go_simp) (by go_simp) (by go_simp) (by go_simp) (by go_simp)) rfl ?_
          exact ⟨ret_vi rfl rfl rfl rfl rfl rfl, by repeat (first | exact Below.refl _ _ | refine Below.alloc ?_ (by simp <;> omega) _ | refine Below.setCell ?_ (by simp <;> omega) _)⟩
        · have ho := vis_none (visO_odd (t := t) (s := (k, s2)) e0 e1)
          rw [ho.1, ho.2]
          clear ho h hN hx hq hi
          go_enter Tryd.func61, Tryd.ntmps61
          go_wp2
          refine bodyPost_ret (res_visit rfl rfl rfl (x0 := .int .i64 0) (x1 := .int .i64 0) (x2 := .int .i64 0) (x3 := .int .i64 0) (x4 := .int .i64 0) (by go_simp) (by go_simp) (by go_simp) (by go_simp) (by go_simp)) rfl ?_
          exact ⟨ret_vi rfl rfl rfl rfl rfl rfl, by repeat (first | exact Below.refl _ _ | refine Below.alloc ?_ (by simp <;> omega) _ | refine Below.setCell ?_ (by simp <;> omega) _)⟩



end Go.Proofs.YteefkijmodcijaaDoor.When

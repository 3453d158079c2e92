import Derived.Test.YtlbghdiebjldjaaGreatDoorPkMem
import Derived.Test.YtlbghdiebjldjaaGreatDoorPkUp
import Derived.Test.YtlbghdiebjldjaaGreatDoorPkPlaceMay
import Derived.Test.YtlbghdiebjldjaaGreatDoorPkWindowCalls
import Derived.Test.YtlbghdiebjldjaaGreatDoorPkPlaceCalls

namespace Go.Proofs.YtlbghdiebjldjaaGreatDoor.Place
open Go.RowKit
set_option linter.unusedVariables false
theorem refDist_any (ax ay bx by_ : Int) (w : World) :
 Calls Tryz.prog 99 #[.agg #[.int .i64 ax, .int .i64 ay], .agg #[.int .i64 bx, .int .i64 by_]] w fun e w' => e = .returned (.int .i64 (distV (ax, ay) (bx, by_))) ∧ Below w.heap.size w w' := by
 have hb0 : Below w.heap.size w ((w.alloc (.cells #[.int .i64 ax, .int .i64 ay] 62)).alloc (.cells #[.int .i64 bx, .int .i64 by_] 62)) := ((Below.refl _ _).alloc (Nat.le_refl _) _).alloc (by simp) _
 cases h1 : mayB (ax, ay)
 · have hd := Lib.hid (distV_no1 (b := (bx, by_)) h1)
   go_enter Tryz.func99, Tryz.ntmps99
   go_wp2_with fail
   refine (refMay_any _ _ _).mono ?_
   rintro e w1 ⟨rfl, hb1⟩
   rw [h1]
   go_wp2
   go_ret
   exact ⟨ret_int hd.out.symm, hb0.trans (hb1.mono hb0.size)⟩
 · cases h2 : mayB (bx, by_)
   · have hd := Lib.hid (distV_no2 (a := (ax, ay)) h2)
     go_enter Tryz.func99, Tryz.ntmps99
     go_wp2_with fail
     refine (refMay_any _ _ _).mono ?_
     rintro e w1 ⟨rfl, hb1⟩
     rw [h1]
     have c3 := (hb1.cell (p := ⟨w.heap.size + 1, 0, none⟩) (by simp)).trans (show _ = some (.int .i64 bx) by go_simp)
     have c4 := (hb1.cell (p := ⟨w.heap.size + 1, 1, none⟩) (by simp)).trans (show _ = some (.int .i64 by_) by go_simp)
     go_wp2_with fail
     refine (refMay_any _ _ _).mono ?_
     rintro e w2 ⟨rfl, hb2⟩
     rw [h2]
     go_wp2
     go_ret
     exact ⟨ret_int hd.out.symm, (hb0.trans (hb1.mono hb0.size)).trans (hb2.mono (hb0.trans (hb1.mono hb0.size)).size)⟩
   · have hd := Lib.hid (distV_yes h1 h2)
     have m1 := (mayB_iff _).1 h1
     have m2 := (mayB_iff _).1 h2
     simp only at m1 m2
     go_enter Tryz.func99, Tryz.ntmps99
     go_wp2_with fail
     refine (refMay_any _ _ _).mono ?_
     rintro e w1 ⟨rfl, hb1⟩
     rw [h1]
     have c3 := (hb1.cell (p := ⟨w.heap.size + 1, 0, none⟩) (by simp)).trans (show _ = some (.int .i64 bx) by go_simp)
     have c4 := (hb1.cell (p := ⟨w.heap.size + 1, 1, none⟩) (by simp)).trans (show _ = some (.int .i64 by_) by go_simp)
     go_wp2_with fail
     refine (refMay_any _ _ _).mono ?_
     rintro e w2 ⟨rfl, hb2⟩
     rw [h2]
     have d1 := (hb2.cell (p := ⟨w.heap.size, 0, none⟩) (Nat.lt_of_lt_of_le (by simp; omega) hb1.size)).trans ((hb1.cell (p := ⟨w.heap.size, 0, none⟩) (by simp; omega)).trans (show _ = some (.int .i64 ax) by go_simp))
     have d2 := (hb2.cell (p := ⟨w.heap.size, 1, none⟩) (Nat.lt_of_lt_of_le (by simp; omega) hb1.size)).trans ((hb1.cell (p := ⟨w.heap.size, 1, none⟩) (by simp; omega)).trans (show _ = some (.int .i64 ay) by go_simp))
     have d3 := (hb2.cell (p := ⟨w.heap.size + 1, 0, none⟩) (Nat.lt_of_lt_of_le (by simp) hb1.size)).trans c3
     have d4 := (hb2.cell (p := ⟨w.heap.size + 1, 1, none⟩) (Nat.lt_of_lt_of_le (by simp) hb1.size)).trans c4
     clear c3 c4
     have hB : Below w.heap.size w w2 := (hb0.trans (hb1.mono hb0.size)).trans (hb2.mono (hb0.trans (hb1.mono hb0.size)).size)
     have g1 := gap_side m1.1 m2.1
     have g2 := gap_side m1.2 m2.2
     clear hb1 hb2 hb0
     go_wp2
     go_quiet ((go_at_call 123; refine Calls.quiet_of_same (refApart_any _ _ (by omega) (by omega) _)))
     go_wp2
     go_ret
     exact ⟨ret_int hd.out.symm, below_drewN hB nq⟩
end Go.Proofs.YtlbghdiebjldjaaGreatDoor.Place
namespace Go.Proofs.YtlbghdiebjldjaaGreatDoor.When
open Go.RowKit Go.Proofs.YtlbghdiebjldjaaGreatDoor.Mem Go.Proofs.YtlbghdiebjldjaaGreatDoor.Route
set_option linter.unusedVariables false
def rqV (q : Rq) : List Value := [.int .i64 q.fx, .int .i64 q.fy, .int .i64 q.tx, .int .i64 q.ty, .int .i64 q.pe, .int .i64 q.pl, .int .i64 q.de, .int .i64 q.dl, .int .i64 q.ld, .int .i64 q.sv]
def tmC (x : Tm) : List Value := [.int .i64 x.ar, .int .i64 x.be, .int .i64 x.lv]
def Rqs (B : Nat) (W : World) (v : Value) (t : List Rq) : Prop := RowB B W v 10 (t.map rqV)
def Tms (B : Nat) (W : World) (v : Value) (l : List Tm) : Prop := RowB B W v 3 (l.map tmC)
theorem Rqs.keep {B C : Nat} {W W' : World} {v : Value} {l : List Rq} (h : Rqs B W v l) (hb : Below C W W') (hB : B ≤ C) : Rqs B W' v l := RowB.keep h hb hB
theorem Rqs.more {B C : Nat} {W : World} {v : Value} {l : List Rq} (h : Rqs B W v l) (hB : B ≤ C) : Rqs C W v l := RowB.more h hB
theorem Rqs.on {W W' : World} {v : Value} {l : List Rq} (h : Rqs W.heap.size W v l) (hb : Below W.heap.size W W') : Rqs W'.heap.size W' v l := RowB.on h hb
theorem Tms.keep {B C : Nat} {W W' : World} {v : Value} {l : List Tm} (h : Tms B W v l) (hb : Below C W W') (hB : B ≤ C) : Tms B W' v l := RowB.keep h hb hB
theorem Tms.on {W W' : World} {v : Value} {l : List Tm} (h : Tms W.heap.size W v l) (hb : Below W.heap.size W W') : Tms W'.heap.size W' v l := RowB.on h hb
theorem Rqs.opened {B : Nat} {W : World} {v : Value} {t : List Rq} (h : Rqs B W v t) : ∃ x N cap, v = .slice x N cap ∧ t.length = N ∧ N ≤ cap ∧ cap ≤ maxLen ∧ (x = none → t = []) := by
 obtain ⟨x, cap, rfl, h1, h2, h0, _⟩ := h
 refine ⟨x, t.length, cap, by simp, rfl, by simpa using h1, h2, fun e => ?_⟩
 have := h0 e
 simpa using this.1
theorem Tms.opened {B : Nat} {W : World} {v : Value} {t : List Tm} (h : Tms B W v t) : ∃ x N cap, v = .slice x N cap ∧ t.length = N ∧ N ≤ cap ∧ cap ≤ maxLen ∧ (x = none → t = []) := by
 obtain ⟨x, cap, rfl, h1, h2, h0, _⟩ := h
 refine ⟨x, t.length, cap, by simp, rfl, by simpa using h1, h2, fun e => ?_⟩
 have := h0 e
 simpa using this.1
theorem Rqs.at {B : Nat} {W : World} {x : Option Addr} {n cap : Nat} {t : List Rq} (h : Rqs B W (.slice x n cap) t) {k : Nat} {q : Rq} (hk : t[k]? = some q) :
 ∃ g o, x = some ⟨g, o, none⟩ ∧ g < B ∧ (W.cell? ⟨g, o + k * 10, none⟩ = some (.int .i64 q.fx) ∧ W.cell? ⟨g, o + k * 10 + 1, none⟩ = some (.int .i64 q.fy) ∧ W.cell? ⟨g, o + k * 10 + 2, none⟩ = some (.int .i64 q.tx) ∧ W.cell? ⟨g, o + k * 10 + 3, none⟩ = some (.int .i64 q.ty)
  ∧ W.cell? ⟨g, o + k * 10 + 4, none⟩ = some (.int .i64 q.pe) ∧ W.cell? ⟨g, o + k * 10 + 5, none⟩ = some (.int .i64 q.pl) ∧ W.cell? ⟨g, o + k * 10 + 6, none⟩ = some (.int .i64 q.de) ∧ W.cell? ⟨g, o + k * 10 + 7, none⟩ = some (.int .i64 q.dl)
  ∧ W.cell? ⟨g, o + k * 10 + 8, none⟩ = some (.int .i64 q.ld) ∧ W.cell? ⟨g, o + k * 10 + 9, none⟩ = some (.int .i64 q.sv)) := by
 obtain ⟨g, o, e, hg, hc⟩ := RowB.row h (j := k) (r := rqV q) (by rw [List.getElem?_map, hk]; rfl)
 exact ⟨g, o, e, hg, hc 0 _ rfl, hc 1 _ rfl, hc 2 _ rfl, hc 3 _ rfl, hc 4 _ rfl, hc 5 _ rfl, hc 6 _ rfl, hc 7 _ rfl, hc 8 _ rfl, hc 9 _ rfl⟩
theorem Tms.at {B : Nat} {W : World} {x : Option Addr} {n cap : Nat} {t : List Tm} (h : Tms B W (.slice x n cap) t) {k : Nat} {q : Tm} (hk : t[k]? = some q) :
 ∃ g o, x = some ⟨g, o, none⟩ ∧ g < B ∧ (W.cell? ⟨g, o + k * 3, none⟩ = some (.int .i64 q.ar) ∧ W.cell? ⟨g, o + k * 3 + 1, none⟩ = some (.int .i64 q.be) ∧ W.cell? ⟨g, o + k * 3 + 2, none⟩ = some (.int .i64 q.lv)) := by
 obtain ⟨g, o, e, hg, hc⟩ := RowB.row h (j := k) (r := tmC q) (by rw [List.getElem?_map, hk]; rfl)
 exact ⟨g, o, e, hg, hc 0 _ rfl, hc 1 _ rfl, hc 2 _ rfl⟩
theorem put10 {w : World} {g : Nat} {t : TypeId} {x0 x1 x2 x3 x4 x5 x6 x7 x8 x9 y0 y1 y2 y3 y4 y5 y6 y7 y8 y9 : Value} (h : At w g t #[x0, x1, x2, x3, x4, x5, x6, x7, x8, x9]) :
 At ((((((((((w.setCell ⟨g, 0, none⟩ y0).setCell ⟨g, 1, none⟩ y1).setCell ⟨g, 2, none⟩ y2).setCell ⟨g, 3, none⟩ y3).setCell ⟨g, 4, none⟩ y4).setCell ⟨g, 5, none⟩ y5).setCell ⟨g, 6, none⟩ y6).setCell ⟨g, 7, none⟩ y7).setCell ⟨g, 8, none⟩ y8).setCell ⟨g, 9, none⟩ y9) g t #[y0, y1, y2, y3, y4, y5, y6, y7, y8, y9] := by
 simpa using (((((((((h.put 0 y0).put 1 y1).put 2 y2).put 3 y3).put 4 y4).put 5 y5).put 6 y6).put 7 y7).put 8 y8).put 9 y9
theorem put5 {w : World} {g : Nat} {t : TypeId} {x0 x1 x2 x3 x4 y0 y1 y2 y3 y4 : Value} (h : At w g t #[x0, x1, x2, x3, x4]) :
 At (((((w.setCell ⟨g, 0, none⟩ y0).setCell ⟨g, 1, none⟩ y1).setCell ⟨g, 2, none⟩ y2).setCell ⟨g, 3, none⟩ y3).setCell ⟨g, 4, none⟩ y4) g t #[y0, y1, y2, y3, y4] := by
 simpa using ((((h.put 0 y0).put 1 y1).put 2 y2).put 3 y3).put 4 y4
theorem put3 {w : World} {g : Nat} {t : TypeId} {x0 x1 x2 y0 y1 y2 : Value} (h : At w g t #[x0, x1, x2]) :
 At (((w.setCell ⟨g, 0, none⟩ y0).setCell ⟨g, 1, none⟩ y1).setCell ⟨g, 2, none⟩ y2) g t #[y0, y1, y2] := by
 simpa using ((h.put 0 y0).put 1 y1).put 2 y2
theorem put2 {w : World} {g : Nat} {t : TypeId} {x0 x1 y0 y1 : Value} (h : At w g t #[x0, x1]) : At ((w.setCell ⟨g, 0, none⟩ y0).setCell ⟨g, 1, none⟩ y1) g t #[y0, y1] := by simpa using (h.put 0 y0).put 1 y1
theorem res_visit {fn : Func} {p c : Tmp} (h : fn.results = #[.cell p 173, .tmp c]) {tmps : Array Value} {w : World} {g : Nat} {x0 x1 x2 x3 x4 b : Value} (hp : tmps.getD p undef = .pointer (some ⟨g, 0, none⟩)) (hc : tmps.getD c undef = b)
 (c0 : w.cell? ⟨g, 0, none⟩ = some x0) (c1 : w.cell? ⟨g, 1, none⟩ = some x1) (c2 : w.cell? ⟨g, 2, none⟩ = some x2) (c3 : w.cell? ⟨g, 3, none⟩ = some x3) (c4 : w.cell? ⟨g, 4, none⟩ = some x4) : (results fn tmps).run Tryz.prog w = .ok (.tuple #[.agg #[x0, x1, x2, x3, x4], b]) w := by
 have hp' : tmps[p]?.getD undef = .pointer (some ⟨g, 0, none⟩) := by simpa using hp
 have hc' : tmps[c]?.getD undef = b := by simpa using hc
 simp only [results, h]
 go_simp
theorem res_pl {fn : Func} {p c : Tmp} (h : fn.results = #[.cell p 62, .tmp c]) {tmps : Array Value} {w : World} {g : Nat} {x0 x1 b : Value} (hp : tmps.getD p undef = .pointer (some ⟨g, 0, none⟩)) (hc : tmps.getD c undef = b)
 (c0 : w.cell? ⟨g, 0, none⟩ = some x0) (c1 : w.cell? ⟨g, 1, none⟩ = some x1) : (results fn tmps).run Tryz.prog w = .ok (.tuple #[.agg #[x0, x1], b]) w := by
 have hp' : tmps[p]?.getD undef = .pointer (some ⟨g, 0, none⟩) := by simpa using hp
 have hc' : tmps[c]?.getD undef = b := by simpa using hc
 simp only [results, h]
 go_simp
theorem res_wi {fn : Func} {p c : Tmp} (h : fn.results = #[.cell p 70, .tmp c]) {tmps : Array Value} {w : World} {g : Nat} {x0 x1 b : Value} (hp : tmps.getD p undef = .pointer (some ⟨g, 0, none⟩)) (hc : tmps.getD c undef = b)
 (c0 : w.cell? ⟨g, 0, none⟩ = some x0) (c1 : w.cell? ⟨g, 1, none⟩ = some x1) : (results fn tmps).run Tryz.prog w = .ok (.tuple #[.agg #[x0, x1], b]) w := by
 have hp' : tmps[p]?.getD undef = .pointer (some ⟨g, 0, none⟩) := by simpa using hp
 have hc' : tmps[c]?.getD undef = b := by simpa using hc
 simp only [results, h]
 go_simp
theorem ret_vi {a0 a1 a2 a3 a4 b0 b1 b2 b3 b4 : Int} {c d : Bool} (h0 : a0 = b0) (h1 : a1 = b1) (h2 : a2 = b2) (h3 : a3 = b3) (h4 : a4 = b4) (h : c = d) :
 Ending.returned (.tuple #[.agg #[.int .i64 a0, .int .i64 a1, .int .i64 a2, .int .i64 a3, .int .i64 a4], .bool c]) = .returned (.tuple #[.agg #[.int .i64 b0, .int .i64 b1, .int .i64 b2, .int .i64 b3, .int .i64 b4], .bool d]) := by rw [h0, h1, h2, h3, h4, h]
theorem ret_two {a0 a1 b0 b1 : Int} {c d : Bool} (h0 : a0 = b0) (h1 : a1 = b1) (h : c = d) :
 Ending.returned (.tuple #[.agg #[.int .i64 a0, .int .i64 a1], .bool c]) = .returned (.tuple #[.agg #[.int .i64 b0, .int .i64 b1], .bool d]) := by rw [h0, h1, h]
theorem vis_none {t : List Rq} {s : Int × Int} (h : visO t s = none) : visV t s = noVi ∧ visB t s = false := by simp [visV, visB, h]
theorem vis_some {t : List Rq} {s : Int × Int} {x : Vi} (h : visO t s = some x) : visV t s = x ∧ visB t s = true := by simp [visV, visB, h]
set_option maxHeartbeats 1000000 in
theorem visitOf_any (s1 s2 : Int) (v : Value) (t : List Rq) (w : World) (h : Rqs w.heap.size w v t) :
 Calls Tryz.prog 103 #[.agg #[.int .i64 s1, .int .i64 s2], v] w fun e w' => e = .returned (.tuple #[.agg #[.int .i64 (visV t (s1, s2)).px, .int .i64 (visV t (s1, s2)).py, .int .i64 (visV t (s1, s2)).we, .int .i64 (visV t (s1, s2)).wl, .int .i64 (visV t (s1, s2)).sv], .bool (visB t (s1, s2))]) ∧ Below w.heap.size w w' := by
 obtain ⟨x, N, cap, rfl, hN, hc1, hc2, hx⟩ := h.opened
 by_cases h1 : s1 < 0
 · have ho := vis_none (visO_out (t := t) (s := (s1, s2)) (by simp [inT]; omega))
   rw [ho.1, ho.2]
   clear ho h hN hx
   go_enter Tryz.func103, Tryz.ntmps103
   go_wp2
   refine bodyPost_ret (res_visit rfl rfl rfl (x0 := .int .i64 0) (x1 := .int .i64 0) (x2 := .int .i64 0) (x3 := .int .i64 0) (x4 := .int .i64 0) (by go_simp) (by go_simp) (by go_simp) (by go_simp) (by go_simp)) rfl ?_
   exact ⟨ret_vi rfl rfl rfl rfl rfl rfl, by repeat (first | exact Below.refl _ _ | refine Below.alloc ?_ (by simp <;> omega) _ | refine Below.setCell ?_ (by simp <;> omega) _)⟩
 · by_cases h2 : (N : Int) ≤ s1
   · have ho := vis_none (visO_out (t := t) (s := (s1, s2)) (by simp [inT]; omega))
     rw [ho.1, ho.2]
     clear ho h hN hx
     go_enter Tryz.func103, Tryz.ntmps103
     go_wp2
     refine bodyPost_ret (res_visit rfl rfl rfl (x0 := .int .i64 0) (x1 := .int .i64 0) (x2 := .int .i64 0) (x3 := .int .i64 0) (x4 := .int .i64 0) (by go_simp) (by go_simp) (by go_simp) (by go_simp) (by go_simp)) rfl ?_
     exact ⟨ret_vi rfl rfl rfl rfl rfl rfl, by repeat (first | exact Below.refl _ _ | refine Below.alloc ?_ (by simp <;> omega) _ | refine Below.setCell ?_ (by simp <;> omega) _)⟩
   · have hi : inT t s1 = true := by simp [inT]; omega
     obtain ⟨q, hq, _, _⟩ := inT_get hi
     obtain ⟨k, rfl⟩ : ∃ k : Nat, s1 = k := ⟨s1.toNat, by omega⟩
     simp only [Int.toNat_natCast] at hq
     obtain ⟨g, o, rfl, hg, c0, c1, c2, c3, c4, c5, c6, c7, c8, c9⟩ := h.at hq
     have hk : k < N := by omega
     have hk2 : ((k : Int) < N) := by omega
     by_cases e0 : s2 = 0
     · have ho := vis_some (visO_pick (t := t) (s := (k, s2)) (q := q) hi (by simpa using hq) e0)
       rw [ho.1, ho.2]
       subst e0
       clear ho h hN hx hq hi
       go_enter Tryz.func103, Tryz.ntmps103
       go_wp2
       refine bodyPost_ret (res_visit rfl rfl rfl (x0 := .int .i64 q.fx) (x1 := .int .i64 q.fy) (x2 := .int .i64 q.pe) (x3 := .int .i64 q.pl) (x4 := .int .i64 q.sv) (by go_simp) (by go_simp) (by go_simp) (by go_simp) (by go_simp)) rfl ?_
       exact ⟨ret_vi rfl rfl rfl rfl rfl rfl, by repeat (first | exact Below.refl _ _ | refine Below.alloc ?_ (by simp <;> omega) _ | refine Below.setCell ?_ (by simp <;> omega) _)⟩
     · by_cases e1 : s2 = 1
       · have ho := vis_some (visO_drop (t := t) (s := (k, s2)) (q := q) hi (by simpa using hq) e1)
         rw [ho.1, ho.2]
         subst e1
         clear ho h hN hx hq hi
         go_enter Tryz.func103, Tryz.ntmps103
         go_wp2
         refine bodyPost_ret (res_visit rfl rfl rfl (x0 := .int .i64 q.tx) (x1 := .int .i64 q.ty) (x2 := .int .i64 q.de) (x3 := .int .i64 q.dl) (x4 := .int .i64 q.sv) (by go_simp) (by go_simp) (by go_simp) (by go_simp) (by go_simp)) rfl ?_
         exact ⟨ret_vi rfl rfl rfl rfl rfl rfl, by repeat (first | exact Below.refl _ _ | refine Below.alloc ?_ (by simp <;> omega) _ | refine Below.setCell ?_ (by simp <;> omega) _)⟩
       · have ho := vis_none (visO_odd (t := t) (s := (k, s2)) e0 e1)
         rw [ho.1, ho.2]
         clear ho h hN hx hq hi
         go_enter Tryz.func103, Tryz.ntmps103
         go_wp2
         refine bodyPost_ret (res_visit rfl rfl rfl (x0 := .int .i64 0) (x1 := .int .i64 0) (x2 := .int .i64 0) (x3 := .int .i64 0) (x4 := .int .i64 0) (by go_simp) (by go_simp) (by go_simp) (by go_simp) (by go_simp)) rfl ?_
         exact ⟨ret_vi rfl rfl rfl rfl rfl rfl, by repeat (first | exact Below.refl _ _ | refine Below.alloc ?_ (by simp <;> omega) _ | refine Below.setCell ?_ (by simp <;> omega) _)⟩
end Go.Proofs.YtlbghdiebjldjaaGreatDoor.When
namespace Go.Proofs.YtlbghdiebjldjaaGreatDoor.Window
open Go.RowKit Go.Sort Go.Proofs.YtlbghdiebjldjaaGreatDoor.Mem
set_option linter.unusedVariables false
theorem inB_any (e l t : Int) (w : World) :
 Calls Tryz.prog 129 #[.agg #[.int .i64 e, .int .i64 l], .int .i64 t] w fun r w' => r = .returned (.bool (decide (e ≤ t) && decide (t ≤ l))) ∧ Below w.heap.size w w' :=
 (has_any e l t w).mono fun r w' ⟨h1, h2⟩ => ⟨h1, by subst h2; exact (Below.refl _ _).alloc (Nat.le_refl _) _⟩
theorem in_Wait1 : ∀ args w, (callFunc 128 args).run Tryz.prog w = .ok (.enter 128 args) w := fun args w => enters Tryz.func128 (by kernel_rfl) rfl args w
theorem Wait1_any (e l x y t : Int) (b : Nat) (w : World) (hb : b < w.heap.size) (ht : w.cell? ⟨b, 0, none⟩ = some (.int .i64 t)) :
 Calls Tryz.prog 128 #[.agg #[.int .i64 e, .int .i64 l, .int .i64 x, .int .i64 y], .pointer (some ⟨b, 0, none⟩)] w fun r w' => r = .returned (.tuple #[.int .i64 (max t e), .bool (decide (e ≤ max t e) && decide (max t e ≤ l))]) ∧ Below w.heap.size w w' := by
 have hb0 : Below w.heap.size w (w.alloc (.cells #[.int .i64 e, .int .i64 l, .int .i64 x, .int .i64 y] 207)) := (Below.refl _ _).alloc (Nat.le_refl _) _
 go_enter Tryz.func128, Tryz.ntmps128
 go_wp2_with fail
 refine (inB_any _ _ _ _).mono ?_
 rintro r w1 ⟨rfl, hb1⟩
 have hE := hb0.trans (hb1.mono hb0.size)
 clear hb1 hb0
 go_wp2
 refine bodyPost_ret (v := .tuple #[.int .i64 _, .bool _]) (by simp [results, Tryz.results128, go_sem]; exact ⟨rfl, rfl⟩) rfl ?_
 exact ⟨rfl, hE⟩
theorem Wait_any (e l t : Int) (w : World) :
 Calls Tryz.prog 106 #[.agg #[.int .i64 e, .int .i64 l], .int .i64 t] w fun r w' => r = .returned (.tuple #[.int .i64 (waitV e l t), .bool (waitB e l t)]) ∧ Below w.heap.size w w' := by
 have hT0 : At ((w.alloc (.cells #[.int .i64 e, .int .i64 l] 70)).alloc (.cells #[.int .i64 t] 3)) (w.heap.size + 1) 3 #[.int .i64 t] := At.new_ _ _ _ (by simp)
 have hb0 : Below w.heap.size w ((w.alloc (.cells #[.int .i64 e, .int .i64 l] 70)).alloc (.cells #[.int .i64 t] 3)) := ((Below.refl _ _).alloc (Nat.le_refl _) _).alloc (by simp) _
 go_enter Tryz.func106, Tryz.ntmps106
 go_wp2_with fail
 generalize ((w.alloc (.cells #[.int .i64 e, .int .i64 l] 70)).alloc (.cells #[.int .i64 t] 3)) = w0 at *
 refine (ifMayInt _ _ _ _ (max t e) (decide (e ≤ max t e) && decide (max t e ≤ l)) _ in_Wait1 (fun _ w1 hb1 => Wait1_any _ _ _ _ t _ w1 (hT0.keep hb1 hT0.inside).inside (by simpa using (hT0.keep hb1 hT0.inside).cell 0))).mono ?_
 rintro r w1 ⟨rfl, hb1⟩
 have hE := hb0.trans (hb1.mono hb0.size)
 clear hb1 hb0 hT0
 go_wp2
 refine bodyPost_ret (v := .tuple #[.int .i64 _, .bool _]) (by simp [results, Tryz.results106, go_sem]; exact ⟨rfl, rfl⟩) rfl ?_
 exact ⟨rfl, hE⟩
end Go.Proofs.YtlbghdiebjldjaaGreatDoor.Window
namespace Go.Proofs.YtlbghdiebjldjaaGreatDoor.Order
open Go.RowKit Go.Sort Go.Proofs.YtlbghdiebjldjaaGreatDoor.Mem Go.Proofs.YtlbghdiebjldjaaGreatDoor.Place Go.Proofs.YtlbghdiebjldjaaGreatDoor.Window Go.Proofs.YtlbghdiebjldjaaGreatDoor.Tail
set_option linter.unusedVariables false
theorem ret_int {k : IntKind} {a b : Int} (h : a = b) : Ending.returned (.int k a) = .returned (.int k b) := by rw [h]
theorem ret_bool {a b : Bool} (h : a = b) : Ending.returned (.bool a) = .returned (.bool b) := by rw [h]
theorem btw_no1 {n a b : Int} (h : ¬ n ≥ a) : false = btwB n a b := by simp [btwB]; omega
theorem btw_yes1 {n a b : Int} (h : n ≥ a) : decide (n ≤ b) = btwB n a b := by simp [btwB]; omega
theorem between_any (n a b : Int) (w : World) :
 Calls Tryz.prog 64 #[.int .i64 n, .int .i64 a, .int .i64 b] w fun r w' => r = .returned (.bool (btwB n a b)) ∧ w = w' := by
 by_cases h1 : n ≥ a
 · have hm := Lib.hid (btw_yes1 (b := b) h1)
   go_enter Tryz.func64, Tryz.ntmps64
   go_wp2
   go_ret
   exact ⟨ret_bool hm.out, rfl⟩
 · have hm := Lib.hid (btw_no1 (b := b) h1)
   go_enter Tryz.func64, Tryz.ntmps64
   go_wp2
   go_ret
   exact ⟨ret_bool hm.out, rfl⟩
theorem firstFault_any (b0 b1 b2 : Bool) (e0 e1 e2 : Int) (g : Nat) (w : World) (h : At w g 123 #[.bool b0, .int .i64 e0, .bool b1, .int .i64 e1, .bool b2, .int .i64 e2]) :
 Calls Tryz.prog 62 #[.slice (some ⟨g, 0, none⟩) 3 3] w fun r w' => r = .returned (.int .i64 (ff b0 b1 b2 e0 e1 e2)) ∧ Below w.heap.size w w' := by
 have hg := h.inside
 have c0 := h.cell 0
 have c1 := h.cell 1
 have c2 := h.cell 2
 have c3 := h.cell 3
 have c4 := h.cell 4
 have c5 := h.cell 5
 simp at c0 c1 c2 c3 c4 c5
 cases b0
 · go_enter Tryz.func62, Tryz.ntmps62
   go_wp2_with fail
   refine wp_loop_rounds 4 ?_
   rw [rounds_succ]
   go_wp2
   go_ret
   exact ⟨ret_int rfl, by repeat (first | exact Below.refl _ _ | refine Below.alloc ?_ (by simp <;> omega) _ | refine Below.setCell ?_ (by simp <;> omega) _)⟩
 cases b1
 · go_enter Tryz.func62, Tryz.ntmps62
   go_wp2_with fail
   refine wp_loop_rounds 4 ?_
   rw [rounds_succ]
   go_wp2
   rw [rounds_succ]
   go_wp2
   go_ret
   exact ⟨ret_int rfl, by repeat (first | exact Below.refl _ _ | refine Below.alloc ?_ (by simp <;> omega) _ | refine Below.setCell ?_ (by simp <;> omega) _)⟩
 cases b2
 · go_enter Tryz.func62, Tryz.ntmps62
   go_wp2_with fail
   refine wp_loop_rounds 4 ?_
   rw [rounds_succ]
   go_wp2
   rw [rounds_succ]
   go_wp2
   rw [rounds_succ]
   go_wp2
   go_ret
   exact ⟨ret_int rfl, by repeat (first | exact Below.refl _ _ | refine Below.alloc ?_ (by simp <;> omega) _ | refine Below.setCell ?_ (by simp <;> omega) _)⟩
 · go_enter Tryz.func62, Tryz.ntmps62
   go_wp2_with fail
   refine wp_loop_rounds 4 ?_
   rw [rounds_succ]
   go_wp2
   rw [rounds_succ]
   go_wp2
   rw [rounds_succ]
   go_wp2
   rw [rounds_succ]
   go_wp2
   go_ret
   exact ⟨ret_int rfl, by repeat (first | exact Below.refl _ _ | refine Below.alloc ?_ (by simp <;> omega) _ | refine Below.setCell ?_ (by simp <;> omega) _)⟩
theorem Between_any (n a b : Int) (w : World) :
 Calls Tryz.prog 64 #[.int .i64 n, .int .i64 a, .int .i64 b] w fun r w' => r = .returned (.bool (btwB n a b)) ∧ Below w.heap.size w w' :=
 (between_any n a b w).mono fun r w' ⟨h1, h2⟩ => ⟨h1, by subst h2; exact Below.refl _ _⟩
set_option maxHeartbeats 4000000 in
theorem Check_any (fx fy tx ty pe pl de dl ld sv : Int) (w : World) :
 Calls Tryz.prog 35 #[.agg #[.int .i64 fx, .int .i64 fy, .int .i64 tx, .int .i64 ty, .int .i64 pe, .int .i64 pl, .int .i64 de, .int .i64 dl, .int .i64 ld, .int .i64 sv]] w fun r w' => r = .returned (.int .i64 (chk fx fy tx ty pe pl de dl ld sv)) ∧ Below w.heap.size w w' := by
 have hP0 : At (w.alloc (.cells #[.int .i64 fx, .int .i64 fy, .int .i64 tx, .int .i64 ty, .int .i64 pe, .int .i64 pl, .int .i64 de, .int .i64 dl, .int .i64 ld, .int .i64 sv] 72)) w.heap.size 72 #[.int .i64 fx, .int .i64 fy, .int .i64 tx, .int .i64 ty, .int .i64 pe, .int .i64 pl, .int .i64 de, .int .i64 dl, .int .i64 ld, .int .i64 sv] := At.new w _ _
 have hb0 : Below w.heap.size w (w.alloc (.cells #[.int .i64 fx, .int .i64 fy, .int .i64 tx, .int .i64 ty, .int .i64 pe, .int .i64 pl, .int .i64 de, .int .i64 dl, .int .i64 ld, .int .i64 sv] 72)) := (Below.refl _ _).alloc (Nat.le_refl _) _
 obtain ⟨b1, h1⟩ : ∃ b, mayB (fx, fy) = b := ⟨_, rfl⟩
 obtain ⟨b2, h2⟩ : ∃ b, okB pe pl = b := ⟨_, rfl⟩
 obtain ⟨b3, h3⟩ : ∃ b, btwB ld 1 1000 = b := ⟨_, rfl⟩
 have hE : chk fx fy tx ty pe pl de dl ld sv = ff (b1 && mayB (tx, ty)) (b2 && okB de dl) (b3 && btwB sv 0 1000) 4 5 6 := by unfold chk; rw [h1, h2, h3]
 rw [hE]
 clear hE
 obtain ⟨b4, h4⟩ : ∃ b, mayB (tx, ty) = b := ⟨_, rfl⟩
 obtain ⟨b5, h5⟩ : ∃ b, okB de dl = b := ⟨_, rfl⟩
 obtain ⟨b6, h6⟩ : ∃ b, btwB sv 0 1000 = b := ⟨_, rfl⟩
 rw [h4, h5, h6]
 have cF : ∀ w, Calls Tryz.prog 63 #[.agg #[.int .i64 fx, .int .i64 fy]] w fun e w' => e = .returned (.bool b1) ∧ Below w.heap.size w w' := fun w => by rw [← h1]; exact Place.May_any _ _ w
 have cT : ∀ w, Calls Tryz.prog 63 #[.agg #[.int .i64 tx, .int .i64 ty]] w fun e w' => e = .returned (.bool b4) ∧ Below w.heap.size w w' := fun w => by rw [← h4]; exact Place.May_any _ _ w
 have cP : ∀ w, Calls Tryz.prog 65 #[.agg #[.int .i64 pe, .int .i64 pl]] w fun e w' => e = .returned (.bool b2) ∧ Below w.heap.size w w' := fun w => by rw [← h2]; exact Window.May_any _ _ w
 have cD : ∀ w, Calls Tryz.prog 65 #[.agg #[.int .i64 de, .int .i64 dl]] w fun e w' => e = .returned (.bool b5) ∧ Below w.heap.size w w' := fun w => by rw [← h5]; exact Window.May_any _ _ w
 have cL : ∀ w, Calls Tryz.prog 64 #[.int .i64 ld, .int .i64 1, .int .i64 1000] w fun e w' => e = .returned (.bool b3) ∧ Below w.heap.size w w' := fun w => by rw [← h3]; exact Between_any _ _ _ w
 have cS : ∀ w, Calls Tryz.prog 64 #[.int .i64 sv, .int .i64 0, .int .i64 1000] w fun e w' => e = .returned (.bool b6) ∧ Below w.heap.size w w' := fun w => by rw [← h6]; exact Between_any _ _ _ w
 clear h1 h2 h3 h4 h5 h6
 go_enter Tryz.func35, Tryz.ntmps35
 go_wp2_with fail
 generalize (w.alloc (.cells #[.int .i64 fx, .int .i64 fy, .int .i64 tx, .int .i64 ty, .int .i64 pe, .int .i64 pl, .int .i64 de, .int .i64 dl, .int .i64 ld, .int .i64 sv] 72)) = w0 at *
 have c0 := hP0.cell 0
 have c1 := hP0.cell 1
 have c2 := hP0.cell 2
 have c3 := hP0.cell 3
 have c4 := hP0.cell 4
 have c5 := hP0.cell 5
 have c6 := hP0.cell 6
 have c7 := hP0.cell 7
 have c8 := hP0.cell 8
 have c9 := hP0.cell 9
 simp at c0 c1 c2 c3 c4 c5 c6 c7 c8 c9
 have kc0 := cell_regrown c0
 have kc1 := cell_regrown c1
 have kc2 := cell_regrown c2
 have kc3 := cell_regrown c3
 have kc4 := cell_regrown c4
 have kc5 := cell_regrown c5
 have kc6 := cell_regrown c6
 have kc7 := cell_regrown c7
 have kc8 := cell_regrown c8
 have kc9 := cell_regrown c9
 have kF := fun d os => Calls.regrown_of (cF (grow (redrawn w0 d) os))
 have kT := fun d os => Calls.regrown_of (cT (grow (redrawn w0 d) os))
 have kP := fun d os => Calls.regrown_of (cP (grow (redrawn w0 d) os))
 have kD := fun d os => Calls.regrown_of (cD (grow (redrawn w0 d) os))
 have kL := fun d os => Calls.regrown_of (cL (grow (redrawn w0 d) os))
 have kS := fun d os => Calls.regrown_of (cS (grow (redrawn w0 d) os))
 clear cF cT cP cD cL cS
 refine wp_region_below_tail 27 (by kernel_rfl) (by kernel_rfl) (by kernel_rfl) ?_
 simp only [List.take_succ_cons, List.take_zero, List.drop_succ_cons, List.drop_zero]
 cases b1 <;> cases b2 <;> cases b3
 all_goals
  repeat (go_big_quiet_step (first | with_reducible exact kF _ _ | with_reducible exact kT _ _ | with_reducible exact kP _ _ | with_reducible exact kD _ _ | with_reducible exact kL _ _ | with_reducible exact kS _ _))
  refine wpQuiet_nil ?_
  intro _ hw'
  obtain ⟨⟨dq, osq⟩, hw''⟩ := hw'
  subst hw''
  have hB := hb0.trans ((below_regrown w0 dq osq).mono hb0.size)
  generalize grow (redrawn w0 dq) osq = w2 at *
  clear kF kT kP kD kL kS kc0 kc1 kc2 kc3 kc4 kc5 kc6 kc7 kc8 kc9 c0 c1 c2 c3 c4 c5 c6 c7 c8 c9 hP0 hb0
  go_wp2_with fail
  refine (firstFault_any _ _ _ 4 5 6 _ _ (At.new _ _ _)).mono ?_
  rintro e w3 ⟨rfl, hb3⟩
  have hE := (hB.alloc hB.size _).trans (hb3.mono (by simp; have := hB.size; omega))
  clear hb3 hB
  go_wp2
  go_ret
  exact ⟨ret_int (by simp), hE⟩
set_option maxHeartbeats 4000000 in
theorem Vehicle_any (hx hy cp st en : Int) (w : World) :
 Calls Tryz.prog 34 #[.agg #[.int .i64 hx, .int .i64 hy, .int .i64 cp, .int .i64 st, .int .i64 en]] w fun r w' => r = .returned (.int .i64 (veh hx hy cp st en)) ∧ Below w.heap.size w w' := by
 have hP0 : At (w.alloc (.cells #[.int .i64 hx, .int .i64 hy, .int .i64 cp, .int .i64 st, .int .i64 en] 64)) w.heap.size 64 #[.int .i64 hx, .int .i64 hy, .int .i64 cp, .int .i64 st, .int .i64 en] := At.new w _ _
 have hb0 : Below w.heap.size w (w.alloc (.cells #[.int .i64 hx, .int .i64 hy, .int .i64 cp, .int .i64 st, .int .i64 en] 64)) := (Below.refl _ _).alloc (Nat.le_refl _) _
 obtain ⟨b1, h1⟩ : ∃ b, mayB (hx, hy) = b := ⟨_, rfl⟩
 obtain ⟨b2, h2⟩ : ∃ b, btwB cp 1 100000 = b := ⟨_, rfl⟩
 obtain ⟨b3, h3⟩ : ∃ b, btwB st 0 1048576 = b := ⟨_, rfl⟩
 obtain ⟨b4, h4⟩ : ∃ b, btwB en st 1048576 = b := ⟨_, rfl⟩
 have hE : veh hx hy cp st en = ff b1 b2 (b3 && b4) 4 7 7 := by unfold veh; rw [h1, h2, h3, h4]
 rw [hE]
 clear hE
 have cH : ∀ w, Calls Tryz.prog 63 #[.agg #[.int .i64 hx, .int .i64 hy]] w fun e w' => e = .returned (.bool b1) ∧ Below w.heap.size w w' := fun w => by rw [← h1]; exact Place.May_any _ _ w
 have cC : ∀ w, Calls Tryz.prog 64 #[.int .i64 cp, .int .i64 1, .int .i64 100000] w fun e w' => e = .returned (.bool b2) ∧ Below w.heap.size w w' := fun w => by rw [← h2]; exact Between_any _ _ _ w
 have cS : ∀ w, Calls Tryz.prog 64 #[.int .i64 st, .int .i64 0, .int .i64 1048576] w fun e w' => e = .returned (.bool b3) ∧ Below w.heap.size w w' := fun w => by rw [← h3]; exact Between_any _ _ _ w
 have cE : ∀ w, Calls Tryz.prog 64 #[.int .i64 en, .int .i64 st, .int .i64 1048576] w fun e w' => e = .returned (.bool b4) ∧ Below w.heap.size w w' := fun w => by rw [← h4]; exact Between_any _ _ _ w
 clear h1 h2 h3 h4
 go_enter Tryz.func34, Tryz.ntmps34
 go_wp2_with fail
 generalize (w.alloc (.cells #[.int .i64 hx, .int .i64 hy, .int .i64 cp, .int .i64 st, .int .i64 en] 64)) = w0 at *
 have c0 := hP0.cell 0
 have c1 := hP0.cell 1
 have c2 := hP0.cell 2
 have c3 := hP0.cell 3
 have c4 := hP0.cell 4
 simp at c0 c1 c2 c3 c4
 have kc0 := cell_regrown c0
 have kc1 := cell_regrown c1
 have kc2 := cell_regrown c2
 have kc3 := cell_regrown c3
 have kc4 := cell_regrown c4
 have kH := fun d os => Calls.regrown_of (cH (grow (redrawn w0 d) os))
 have kC := fun d os => Calls.regrown_of (cC (grow (redrawn w0 d) os))
 have kS := fun d os => Calls.regrown_of (cS (grow (redrawn w0 d) os))
 have kE := fun d os => Calls.regrown_of (cE (grow (redrawn w0 d) os))
 clear cH cC cS cE
 refine wp_region_below_tail 19 (by kernel_rfl) (by kernel_rfl) (by kernel_rfl) ?_
 simp only [List.take_succ_cons, List.take_zero, List.drop_succ_cons, List.drop_zero]
 cases b3
 all_goals
  repeat (go_big_quiet_step (first | with_reducible exact kH _ _ | with_reducible exact kC _ _ | with_reducible exact kS _ _ | with_reducible exact kE _ _))
  refine wpQuiet_nil ?_
  intro _ hw'
  obtain ⟨⟨dq, osq⟩, hw''⟩ := hw'
  subst hw''
  have hB := hb0.trans ((below_regrown w0 dq osq).mono hb0.size)
  generalize grow (redrawn w0 dq) osq = w2 at *
  clear kH kC kS kE kc0 kc1 kc2 kc3 kc4 c0 c1 c2 c3 c4 hP0 hb0
  go_wp2_with fail
  refine (firstFault_any _ _ _ 4 7 7 _ _ (At.new _ _ _)).mono ?_
  rintro e w3 ⟨rfl, hb3⟩
  have hE := (hB.alloc hB.size _).trans (hb3.mono (by simp; have := hB.size; omega))
  clear hb3 hB
  go_wp2
  go_ret
  exact ⟨ret_int (by simp), hE⟩
end Go.Proofs.YtlbghdiebjldjaaGreatDoor.Order

import Derived.Test.YteclpblfleakhaaGreatDoorPkUp
import Derived.Test.YteclpblfleakhaaGreatDoorPkWindowCalls

namespace Go.Proofs.YteclpblfleakhaaGreatDoor.When
open Go.RowKit Go.Proofs.YteclpblfleakhaaGreatDoor.Mem Go.Proofs.YteclpblfleakhaaGreatDoor.Route
set_option linter.unusedVariables false
def rqV (q : Rq) : List Value := [.int .i64 q.fx, .int .i64 q.fy, .int .i64 q.tx, .int .i64 q.ty, .int .i64 q.pe, .int .i64 q.pl, .int .i64 q.de, .int .i64 q.dl, .int .i64 q.ld, .int .i64 q.sv]
def tmC (x : Tm) : List Value := [.int .i64 x.ar, .int .i64 x.be, .int .i64 x.lv]
def Rqs (B : Nat) (W : World) (v : Value) (t : List Rq) : Prop := RowB B W v 10 (t.map rqV)
def Tms (B : Nat) (W : World) (v : Value) (l : List Tm) : Prop := RowB B W v 3 (l.map tmC)
theorem Rqs.keep {B C : Nat} {W W' : World} {v : Value} {l : List Rq} (h : Rqs B W v l) (hb : Below C W W') (hB : B ≤ C) : Rqs B W' v l := RowB.keep h hb hB
theorem Rqs.more {B C : Nat} {W : World} {v : Value} {l : List Rq} (h : Rqs B W v l) (hB : B ≤ C) : Rqs C W v l := RowB.more h hB
theorem Rqs.on {W W' : World} {v : Value} {l : List Rq} (h : Rqs W.heap.size W v l) (hb : Below W.heap.size W W') : Rqs W'.heap.size W' v l := RowB.on h hb
theorem Tms.keep {B C : Nat} {W W' : World} {v : Value} {l : List Tm} (h : Tms B W v l) (hb : Below C W W') (hB : B ≤ C) : Tms B W' v l := RowB.keep h hb hB
theorem Tms.on {W W' : World} {v : Value} {l : List Tm} (h : Tms W.heap.size W v l) (hb : Below W.heap.size W W') : Tms W'.heap.size W' v l := RowB.on h hb
theorem Rqs.opened {B : Nat} {W : World} {v : Value} {t : List Rq} (h : Rqs B W v t) : ∃ x N cap, v = .slice x N cap ∧ t.length = N ∧ N ≤ cap ∧ cap ≤ maxLen ∧ (x = none → t = []) := by
 obtain ⟨x, cap, rfl, h1, h2, h0, _⟩ := h
 refine ⟨x, t.length, cap, by simp, rfl, by simpa using h1, h2, fun e => ?_⟩
 have := h0 e
 simpa using this.1
theorem Tms.opened {B : Nat} {W : World} {v : Value} {t : List Tm} (h : Tms B W v t) : ∃ x N cap, v = .slice x N cap ∧ t.length = N ∧ N ≤ cap ∧ cap ≤ maxLen ∧ (x = none → t = []) := by
 obtain ⟨x, cap, rfl, h1, h2, h0, _⟩ := h
 refine ⟨x, t.length, cap, by simp, rfl, by simpa using h1, h2, fun e => ?_⟩
 have := h0 e
 simpa using this.1
theorem Rqs.at {B : Nat} {W : World} {x : Option Addr} {n cap : Nat} {t : List Rq} (h : Rqs B W (.slice x n cap) t) {k : Nat} {q : Rq} (hk : t[k]? = some q) :
 ∃ g o, x = some ⟨g, o, none⟩ ∧ g < B ∧ (W.cell? ⟨g, o + k * 10, none⟩ = some (.int .i64 q.fx) ∧ W.cell? ⟨g, o + k * 10 + 1, none⟩ = some (.int .i64 q.fy) ∧ W.cell? ⟨g, o + k * 10 + 2, none⟩ = some (.int .i64 q.tx) ∧ W.cell? ⟨g, o + k * 10 + 3, none⟩ = some (.int .i64 q.ty)
  ∧ W.cell? ⟨g, o + k * 10 + 4, none⟩ = some (.int .i64 q.pe) ∧ W.cell? ⟨g, o + k * 10 + 5, none⟩ = some (.int .i64 q.pl) ∧ W.cell? ⟨g, o + k * 10 + 6, none⟩ = some (.int .i64 q.de) ∧ W.cell? ⟨g, o + k * 10 + 7, none⟩ = some (.int .i64 q.dl)
  ∧ W.cell? ⟨g, o + k * 10 + 8, none⟩ = some (.int .i64 q.ld) ∧ W.cell? ⟨g, o + k * 10 + 9, none⟩ = some (.int .i64 q.sv)) := by
 obtain ⟨g, o, e, hg, hc⟩ := RowB.row h (j := k) (r := rqV q) (by rw [List.getElem?_map, hk]; rfl)
 exact ⟨g, o, e, hg, hc 0 _ rfl, hc 1 _ rfl, hc 2 _ rfl, hc 3 _ rfl, hc 4 _ rfl, hc 5 _ rfl, hc 6 _ rfl, hc 7 _ rfl, hc 8 _ rfl, hc 9 _ rfl⟩
theorem Tms.at {B : Nat} {W : World} {x : Option Addr} {n cap : Nat} {t : List Tm} (h : Tms B W (.slice x n cap) t) {k : Nat} {q : Tm} (hk : t[k]? = some q) :
 ∃ g o, x = some ⟨g, o, none⟩ ∧ g < B ∧ (W.cell? ⟨g, o + k * 3, none⟩ = some (.int .i64 q.ar) ∧ W.cell? ⟨g, o + k * 3 + 1, none⟩ = some (.int .i64 q.be) ∧ W.cell? ⟨g, o + k * 3 + 2, none⟩ = some (.int .i64 q.lv)) := by
 obtain ⟨g, o, e, hg, hc⟩ := RowB.row h (j := k) (r := tmC q) (by rw [List.getElem?_map, hk]; rfl)
 exact ⟨g, o, e, hg, hc 0 _ rfl, hc 1 _ rfl, hc 2 _ rfl⟩
theorem put10 {w : World} {g : Nat} {t : TypeId} {x0 x1 x2 x3 x4 x5 x6 x7 x8 x9 y0 y1 y2 y3 y4 y5 y6 y7 y8 y9 : Value} (h : At w g t #[x0, x1, x2, x3, x4, x5, x6, x7, x8, x9]) :
 At ((((((((((w.setCell ⟨g, 0, none⟩ y0).setCell ⟨g, 1, none⟩ y1).setCell ⟨g, 2, none⟩ y2).setCell ⟨g, 3, none⟩ y3).setCell ⟨g, 4, none⟩ y4).setCell ⟨g, 5, none⟩ y5).setCell ⟨g, 6, none⟩ y6).setCell ⟨g, 7, none⟩ y7).setCell ⟨g, 8, none⟩ y8).setCell ⟨g, 9, none⟩ y9) g t #[y0, y1, y2, y3, y4, y5, y6, y7, y8, y9] := by
 simpa using (((((((((h.put 0 y0).put 1 y1).put 2 y2).put 3 y3).put 4 y4).put 5 y5).put 6 y6).put 7 y7).put 8 y8).put 9 y9
theorem put5 {w : World} {g : Nat} {t : TypeId} {x0 x1 x2 x3 x4 y0 y1 y2 y3 y4 : Value} (h : At w g t #[x0, x1, x2, x3, x4]) :
 At (((((w.setCell ⟨g, 0, none⟩ y0).setCell ⟨g, 1, none⟩ y1).setCell ⟨g, 2, none⟩ y2).setCell ⟨g, 3, none⟩ y3).setCell ⟨g, 4, none⟩ y4) g t #[y0, y1, y2, y3, y4] := by
 simpa using ((((h.put 0 y0).put 1 y1).put 2 y2).put 3 y3).put 4 y4
theorem put3 {w : World} {g : Nat} {t : TypeId} {x0 x1 x2 y0 y1 y2 : Value} (h : At w g t #[x0, x1, x2]) :
 At (((w.setCell ⟨g, 0, none⟩ y0).setCell ⟨g, 1, none⟩ y1).setCell ⟨g, 2, none⟩ y2) g t #[y0, y1, y2] := by
 simpa using ((h.put 0 y0).put 1 y1).put 2 y2
theorem put2 {w : World} {g : Nat} {t : TypeId} {x0 x1 y0 y1 : Value} (h : At w g t #[x0, x1]) : At ((w.setCell ⟨g, 0, none⟩ y0).setCell ⟨g, 1, none⟩ y1) g t #[y0, y1] := by simpa using (h.put 0 y0).put 1 y1
theorem res_visit {fn : Func} {p c : Tmp} (h : fn.results = #[.cell p 189, .tmp c]) {tmps : Array Value} {w : World} {g : Nat} {x0 x1 x2 x3 x4 b : Value} (hp : tmps.getD p undef = .pointer (some ⟨g, 0, none⟩)) (hc : tmps.getD c undef = b)
 (c0 : w.cell? ⟨g, 0, none⟩ = some x0) (c1 : w.cell? ⟨g, 1, none⟩ = some x1) (c2 : w.cell? ⟨g, 2, none⟩ = some x2) (c3 : w.cell? ⟨g, 3, none⟩ = some x3) (c4 : w.cell? ⟨g, 4, none⟩ = some x4) : (results fn tmps).run Tryz.prog w = .ok (.tuple #[.agg #[x0, x1, x2, x3, x4], b]) w := by
 have hp' : tmps[p]?.getD undef = .pointer (some ⟨g, 0, none⟩) := by simpa using hp
 have hc' : tmps[c]?.getD undef = b := by simpa using hc
 simp only [results, h]
 go_simp
theorem res_pl {fn : Func} {p c : Tmp} (h : fn.results = #[.cell p 30, .tmp c]) {tmps : Array Value} {w : World} {g : Nat} {x0 x1 b : Value} (hp : tmps.getD p undef = .pointer (some ⟨g, 0, none⟩)) (hc : tmps.getD c undef = b)
 (c0 : w.cell? ⟨g, 0, none⟩ = some x0) (c1 : w.cell? ⟨g, 1, none⟩ = some x1) : (results fn tmps).run Tryz.prog w = .ok (.tuple #[.agg #[x0, x1], b]) w := by
 have hp' : tmps[p]?.getD undef = .pointer (some ⟨g, 0, none⟩) := by simpa using hp
 have hc' : tmps[c]?.getD undef = b := by simpa using hc
 simp only [results, h]
 go_simp
theorem res_wi {fn : Func} {p c : Tmp} (h : fn.results = #[.cell p 41, .tmp c]) {tmps : Array Value} {w : World} {g : Nat} {x0 x1 b : Value} (hp : tmps.getD p undef = .pointer (some ⟨g, 0, none⟩)) (hc : tmps.getD c undef = b)
 (c0 : w.cell? ⟨g, 0, none⟩ = some x0) (c1 : w.cell? ⟨g, 1, none⟩ = some x1) : (results fn tmps).run Tryz.prog w = .ok (.tuple #[.agg #[x0, x1], b]) w := by
 have hp' : tmps[p]?.getD undef = .pointer (some ⟨g, 0, none⟩) := by simpa using hp
 have hc' : tmps[c]?.getD undef = b := by simpa using hc
 simp only [results, h]
 go_simp
theorem ret_vi {a0 a1 a2 a3 a4 b0 b1 b2 b3 b4 : Int} {c d : Bool} (h0 : a0 = b0) (h1 : a1 = b1) (h2 : a2 = b2) (h3 : a3 = b3) (h4 : a4 = b4) (h : c = d) :
 Ending.returned (.tuple #[.agg #[.int .i64 a0, .int .i64 a1, .int .i64 a2, .int .i64 a3, .int .i64 a4], .bool c]) = .returned (.tuple #[.agg #[.int .i64 b0, .int .i64 b1, .int .i64 b2, .int .i64 b3, .int .i64 b4], .bool d]) := by rw [h0, h1, h2, h3, h4, h]
theorem ret_two {a0 a1 b0 b1 : Int} {c d : Bool} (h0 : a0 = b0) (h1 : a1 = b1) (h : c = d) :
 Ending.returned (.tuple #[.agg #[.int .i64 a0, .int .i64 a1], .bool c]) = .returned (.tuple #[.agg #[.int .i64 b0, .int .i64 b1], .bool d]) := by rw [h0, h1, h]
theorem vis_none {t : List Rq} {s : Int × Int} (h : visO t s = none) : visV t s = noVi ∧ visB t s = false := by simp [visV, visB, h]
theorem vis_some {t : List Rq} {s : Int × Int} {x : Vi} (h : visO t s = some x) : visV t s = x ∧ visB t s = true := by simp [visV, visB, h]
set_option maxHeartbeats 1000000 in
theorem visitOf_any (s1 s2 : Int) (v : Value) (t : List Rq) (w : World) (h : Rqs w.heap.size w v t) :
 Calls Tryz.prog 97 #[.agg #[.int .i64 s1, .int .i64 s2], v] w fun e w' => e = .returned (.tuple #[.agg #[.int .i64 (visV t (s1, s2)).px, .int .i64 (visV t (s1, s2)).py, .int .i64 (visV t (s1, s2)).we, .int .i64 (visV t (s1, s2)).wl, .int .i64 (visV t (s1, s2)).sv], .bool (visB t (s1, s2))]) ∧ Below w.heap.size w w' := by
 obtain ⟨x, N, cap, rfl, hN, hc1, hc2, hx⟩ := h.opened
 by_cases h1 : s1 < 0
 · have ho := vis_none (visO_out (t := t) (s := (s1, s2)) (by simp [inT]; omega))
   rw [ho.1, ho.2]
   clear ho h hN hx
   go_enter Tryz.func97, Tryz.ntmps97
   go_wp2
   refine bodyPost_ret (res_visit rfl rfl rfl (x0 := .int .i64 0) (x1 := .int .i64 0) (x2 := .int .i64 0) (x3 := .int .i64 0) (x4 := .int .i64 0) (by go_simp) (by go_simp) (by go_simp) (by go_simp) (by go_simp)) rfl ?_
   exact ⟨ret_vi rfl rfl rfl rfl rfl rfl, by repeat (first | exact Below.refl _ _ | refine Below.alloc ?_ (by simp <;> omega) _ | refine Below.setCell ?_ (by simp <;> omega) _)⟩
 · by_cases h2 : (N : Int) ≤ s1
   · have ho := vis_none (visO_out (t := t) (s := (s1, s2)) (by simp [inT]; omega))
     rw [ho.1, ho.2]
     clear ho h hN hx
     go_enter Tryz.func97, Tryz.ntmps97
     go_wp2
     refine bodyPost_ret (res_visit rfl rfl rfl (x0 := .int .i64 0) (x1 := .int .i64 0) (x2 := .int .i64 0) (x3 := .int .i64 0) (x4 := .int .i64 0) (by go_simp) (by go_simp) (by go_simp) (by go_simp) (by go_simp)) rfl ?_
     exact ⟨ret_vi rfl rfl rfl rfl rfl rfl, by repeat (first | exact Below.refl _ _ | refine Below.alloc ?_ (by simp <;> omega) _ | refine Below.setCell ?_ (by simp <;> omega) _)⟩
   · have hi : inT t s1 = true := by simp [inT]; omega
     obtain ⟨q, hq, _, _⟩ := inT_get hi
     obtain ⟨k, rfl⟩ : ∃ k : Nat, s1 = k := ⟨s1.toNat, by omega⟩
     simp only [Int.toNat_natCast] at hq
     obtain ⟨g, o, rfl, hg, c0, c1, c2, c3, c4, c5, c6, c7, c8, c9⟩ := h.at hq
     have hk : k < N := by omega
     have hk2 : ((k : Int) < N) := by omega
     by_cases e0 : s2 = 0
     · have ho := vis_some (visO_pick (t := t) (s := (k, s2)) (q := q) hi (by simpa using hq) e0)
       rw [ho.1, ho.2]
       subst e0
       clear ho h hN hx hq hi
       go_enter Tryz.func97, Tryz.ntmps97
       go_wp2
       refine bodyPost_ret (res_visit rfl rfl rfl (x0 := .int .i64 q.fx) (x1 := .int .i64 q.fy) (x2 := .int .i64 q.pe) (x3 := .int .i64 q.pl) (x4 := .int .i64 q.sv) (by go_simp) (by go_simp) (by go_simp) (by go_simp) (by go_simp)) rfl ?_
       exact ⟨ret_vi rfl rfl rfl rfl rfl rfl, by repeat (first | exact Below.refl _ _ | refine Below.alloc ?_ (by simp <;> omega) _ | refine Below.setCell ?_ (by simp <;> omega) _)⟩
     · by_cases e1 : s2 = 1
       · have ho := vis_some (visO_drop (t := t) (s := (k, s2)) (q := q) hi (by simpa using hq) e1)
         rw [ho.1, ho.2]
         subst e1
         clear ho h hN hx hq hi
         go_enter Tryz.func97, Tryz.ntmps97
         go_wp2
         refine bodyPost_ret (res_visit rfl rfl rfl (x0 := .int .i64 q.tx) (x1 := .int .i64 q.ty) (x2 := .int .i64 q.de) (x3 := .int .i64 q.dl) (x4 := .int .i64 q.sv) (by go_simp) (by go_simp) (by go_simp) (by go_simp) (by go_simp)) rfl ?_
         exact ⟨ret_vi rfl rfl rfl rfl rfl rfl, by repeat (first | exact Below.refl _ _ | refine Below.alloc ?_ (by simp <;> omega) _ | refine Below.setCell ?_ (by simp <;> omega) _)⟩
       · have ho := vis_none (visO_odd (t := t) (s := (k, s2)) e0 e1)
         rw [ho.1, ho.2]
         clear ho h hN hx hq hi
         go_enter Tryz.func97, Tryz.ntmps97
         go_wp2
         refine bodyPost_ret (res_visit rfl rfl rfl (x0 := .int .i64 0) (x1 := .int .i64 0) (x2 := .int .i64 0) (x3 := .int .i64 0) (x4 := .int .i64 0) (by go_simp) (by go_simp) (by go_simp) (by go_simp) (by go_simp)) rfl ?_
         exact ⟨ret_vi rfl rfl rfl rfl rfl rfl, by repeat (first | exact Below.refl _ _ | refine Below.alloc ?_ (by simp <;> omega) _ | refine Below.setCell ?_ (by simp <;> omega) _)⟩
end Go.Proofs.YteclpblfleakhaaGreatDoor.When
namespace Go.Proofs.YteclpblfleakhaaGreatDoor.Window
open Go.RowKit Go.Sort Go.Proofs.YteclpblfleakhaaGreatDoor.Mem
set_option linter.unusedVariables false
theorem inB_any (e l t : Int) (w : World) :
 Calls Tryz.prog 113 #[.agg #[.int .i64 e, .int .i64 l], .int .i64 t] w fun r w' => r = .returned (.bool (decide (e ≤ t) && decide (t ≤ l))) ∧ Below w.heap.size w w' :=
 (has_any e l t w).mono fun r w' ⟨h1, h2⟩ => ⟨h1, by subst h2; exact (Below.refl _ _).alloc (Nat.le_refl _) _⟩
theorem in_Wait1 : ∀ args w, (callFunc 112 args).run Tryz.prog w = .ok (.enter 112 args) w := fun args w => enters Tryz.func112 (by kernel_rfl) rfl args w
theorem Wait1_any (e l x y t : Int) (b : Nat) (w : World) (hb : b < w.heap.size) (ht : w.cell? ⟨b, 0, none⟩ = some (.int .i64 t)) :
 Calls Tryz.prog 112 #[.agg #[.int .i64 e, .int .i64 l, .int .i64 x, .int .i64 y], .pointer (some ⟨b, 0, none⟩)] w fun r w' => r = .returned (.tuple #[.int .i64 (max t e), .bool (decide (e ≤ max t e) && decide (max t e ≤ l))]) ∧ Below w.heap.size w w' := by
 have hb0 : Below w.heap.size w (w.alloc (.cells #[.int .i64 e, .int .i64 l, .int .i64 x, .int .i64 y] 206)) := (Below.refl _ _).alloc (Nat.le_refl _) _
 go_enter Tryz.func112, Tryz.ntmps112
 go_wp2_with fail
 refine (inB_any _ _ _ _).mono ?_
 rintro r w1 ⟨rfl, hb1⟩
 have hE := hb0.trans (hb1.mono hb0.size)
 clear hb1 hb0
 go_wp2
 refine bodyPost_ret (v := .tuple #[.int .i64 _, .bool _]) (by simp [results, Tryz.results112, go_sem]; exact ⟨rfl, rfl⟩) rfl ?_
 exact ⟨rfl, hE⟩
theorem Wait_any (e l t : Int) (w : World) :
 Calls Tryz.prog 100 #[.agg #[.int .i64 e, .int .i64 l], .int .i64 t] w fun r w' => r = .returned (.tuple #[.int .i64 (waitV e l t), .bool (waitB e l t)]) ∧ Below w.heap.size w w' := by
 have hT0 : At ((w.alloc (.cells #[.int .i64 e, .int .i64 l] 41)).alloc (.cells #[.int .i64 t] 3)) (w.heap.size + 1) 3 #[.int .i64 t] := At.new_ _ _ _ (by simp)
 have hb0 : Below w.heap.size w ((w.alloc (.cells #[.int .i64 e, .int .i64 l] 41)).alloc (.cells #[.int .i64 t] 3)) := ((Below.refl _ _).alloc (Nat.le_refl _) _).alloc (by simp) _
 go_enter Tryz.func100, Tryz.ntmps100
 go_wp2_with fail
 generalize ((w.alloc (.cells #[.int .i64 e, .int .i64 l] 41)).alloc (.cells #[.int .i64 t] 3)) = w0 at *
 refine (ifMayInt _ _ _ _ (max t e) (decide (e ≤ max t e) && decide (max t e ≤ l)) _ in_Wait1 (fun _ w1 hb1 => Wait1_any _ _ _ _ t _ w1 (hT0.keep hb1 hT0.inside).inside (by simpa using (hT0.keep hb1 hT0.inside).cell 0))).mono ?_
 rintro r w1 ⟨rfl, hb1⟩
 have hE := hb0.trans (hb1.mono hb0.size)
 clear hb1 hb0 hT0
 go_wp2
 refine bodyPost_ret (v := .tuple #[.int .i64 _, .bool _]) (by simp [results, Tryz.results100, go_sem]; exact ⟨rfl, rfl⟩) rfl ?_
 exact ⟨rfl, hE⟩
end Go.Proofs.YteclpblfleakhaaGreatDoor.Window
namespace Go.Proofs.YteclpblfleakhaaGreatDoor.Tail
def okB (l : List Oper) (n : Nat) : Bool :=
 decide (n < l.length) &&
 ((List.range n).all fun j => ((l[j]?).map fun o => ((o.guard.map fun g => decide (g.1 < j)).getD true) && o.after.toList.all fun e => decide (e.on < j)).getD false) &&
 ((List.range n).all fun h => (List.range (n + 1)).any fun k => decide (h < k) && ((l[k]?).map fun o => o.after.toList.any fun e => Region.binds .any e && decide (e.on = h)).getD false) &&
 ((List.range (l.length - n)).all fun t => t == 0 || ((l[n + t]?).map fun o => o.after.toList.any fun e => Region.binds .any e && decide (e.on + 1 = n + t)).getD false) &&
 Region.seqB .any l.toArray (l.length - n) n (Array.replicate n true ++ Array.replicate (l.length - n) false)
structure Ok (l : List Oper) (n : Nat) : Prop where
 lt : n < l.length
 head : ∀ j o, j < n → l[j]? = some o → (∀ g, o.guard = some g → g.1 < j) ∧ ∀ e ∈ o.after, e.on < j
 needed : ∀ h, h < n → ∃ k o, h < k ∧ k ≤ n ∧ l[k]? = some o ∧ ∃ e ∈ o.after, Region.binds .any e = true ∧ e.on = h
 tail : ∀ t o, n < t → l[t]? = some o → ∃ e ∈ o.after, Region.binds .any e = true ∧ e.on + 1 = t
 seq : Region.seqB .any l.toArray (l.length - n) n (Array.replicate n true ++ Array.replicate (l.length - n) false) = true
theorem ok_of {l : List Oper} {n : Nat} (h : okB l n = true) : Ok l n := by
 simp only [okB, Bool.and_eq_true, decide_eq_true_eq, List.all_eq_true, List.mem_range] at h
 obtain ⟨⟨⟨⟨h1, h2⟩, h3⟩, h4⟩, h5⟩ := h
 refine ⟨h1, fun j o hj ho => ?_, fun k hk => ?_, fun t o ht ho => ?_, h5⟩
 · have := h2 j hj
   rw [ho] at this
   simp only [Option.map_some, Option.getD_some, Bool.and_eq_true, List.all_eq_true, decide_eq_true_eq] at this
   exact ⟨fun g hg => by have h1 := this.1; rw [hg] at h1; simpa using h1, fun e he => this.2 e (by simpa using he)⟩
 · have h6 := h3 k hk
   rw [List.any_eq_true] at h6
   obtain ⟨i, hi, h7⟩ := h6
   rw [List.mem_range] at hi
   simp only [Bool.and_eq_true, decide_eq_true_eq] at h7
   obtain ⟨h8, h9⟩ := h7
   cases ho : l[i]? with
   | none => rw [ho] at h9; simp at h9
   | some o =>
    rw [ho] at h9
    simp only [Option.map_some, Option.getD_some, List.any_eq_true, Bool.and_eq_true, decide_eq_true_eq] at h9
    obtain ⟨e, he, hb, hon⟩ := h9
    exact ⟨i, o, h8, by omega, ho, e, by simpa using he, hb, hon⟩
 · have hlt : t < l.length := (List.getElem?_eq_some_iff.1 ho).1
   have h6 := h4 (t - n) (by omega)
   rw [show n + (t - n) = t by omega, ho] at h6
   simp only [Option.map_some, Option.getD_some, Bool.or_eq_true, beq_iff_eq, List.any_eq_true, Bool.and_eq_true, decide_eq_true_eq] at h6
   rcases h6 with h6 | ⟨e, he, hb, hon⟩
   · omega
   · exact ⟨e, by simpa using he, hb, hon⟩
variable {P : Program} {l : List Oper} {n : Nat} {C : World → Prop}
structure Fit (l : List Oper) (n : Nat) (lh la : Array Bool) : Prop where
 size : lh.size = n
 sizeAll : la.size = l.length
 same : ∀ j, j < n → la[j]? = lh[j]?
 rest : ∀ j, n ≤ j → j < l.length → la[j]? = some false
 closed : ∀ j o, j < n → la[j]? = some true → l[j]? = some o → ∀ e ∈ o.after, Region.binds .any e = true → la.getD e.on false = true
theorem getD_set {la : Array Bool} {i k : Nat} (h : la.getD k false = true) : (la.setIfInBounds i true).getD k false = true := by
 rw [Array.getD_eq_getD_getElem?] at h ⊢
 rw [Array.getElem?_setIfInBounds]
 by_cases hik : i = k
 · subst hik
   cases hl : la[i]? with
   | none => rw [hl] at h; simp at h
   | some b =>
    have := (Array.getElem?_eq_some_iff.1 hl).1
    simp [this]
 · rw [if_neg hik]
   exact h
theorem Fit.set {lh la : Array Bool} (h : Fit l n lh la) {i : Nat} (hi : i < n) (hr : ∀ o, l[i]? = some o → ∀ e ∈ o.after, Region.binds .any e = true → la.getD e.on false = true) : Fit l n (lh.setIfInBounds i true) (la.setIfInBounds i true) := by
 refine ⟨by simpa using h.size, by simpa using h.sizeAll, fun j hj => ?_, fun j h1 h2 => ?_, fun j o hj ht ho e he hb => ?_⟩
 · have := h.same j hj
   have hs := h.size
   simp only [Array.getElem?_setIfInBounds]
   by_cases hij : i = j
   · subst hij
     have h3 : i < la.size := by
      have e : lh[i]? = some (lh[i]'(by omega)) := Array.getElem?_eq_getElem (by omega)
      rw [e] at this
      exact (Array.getElem?_eq_some_iff.1 this).1
     simp [h3, hs, hi]
   · simp [hij, this]
 · have := h.rest j h1 h2
   rw [Array.getElem?_setIfInBounds, if_neg (by omega)]
   exact this
 · apply getD_set
   by_cases hij : i = j
   · subst hij
     exact hr o ho e he hb
   · rw [Array.getElem?_setIfInBounds, if_neg hij] at ht
     exact h.closed j o hj ht ho e he hb
theorem stuck (hk : Ok l n) {lh la : Array Bool} (hf : Fit l n lh la) : ∀ (m h : Nat), h < n → n - h ≤ m → la.getD h true = false → n ∉ Region.ready .any l.toArray la
 | 0, h, hh, hm, _ => by omega
 | m + 1, h, hh, hm, hu => by
  obtain ⟨k, o, h1, h2, ho, e, he, hb, hon⟩ := hk.needed h hh
  have hu' : la.getD h false = false := by
   rw [Array.getD_eq_getD_getElem?] at hu ⊢
   cases hl : la[h]? with
   | none => rfl
   | some b => rw [hl] at hu; simpa using hu
  by_cases hkn : k = n
  · subst hkn
    intro hr
    rw [mem_ready] at hr
    obtain ⟨_, o', ho', hall⟩ := hr
    have e1 : o' = o := by
     rw [show l.toArray[k]? = l[k]? by simp] at ho'
     rw [ho] at ho'
     exact (Option.some.inj ho').symm
    subst e1
    have := hall e he hb
    rw [hon, hu'] at this
    cases this
  · have hkl : k < n := by omega
    refine stuck hk hf m k hkl (by omega) ?_
    cases hv : la[k]? with
    | none =>
     have := hk.lt
     rw [Array.getElem?_eq_none_iff, hf.sizeAll] at hv
     omega
    | some b =>
     rw [Array.getD_eq_getD_getElem?, hv]
     cases b
     · rfl
     · have := hf.closed k o hkl hv ho e he hb
       rw [hon, hu'] at this
       cases this
theorem qOp_all (hk : Ok l n) {i : Nat} (hi : i < n) {K : Act → Prop} {a : Act} (h : qOp P (l.take n).toArray C i K a) : qOp P l.toArray C i K a := by
 have e : (l.take n).toArray[i]? = l.toArray[i]? := by simp [hi]
 unfold qOp at h ⊢
 rw [e] at h
 cases ho : l.toArray[i]? with
 | none => rw [ho] at h; exact h
 | some o =>
  rw [ho] at h
  have hg := (hk.head i o hi (by simpa using ho)).1
  have hw : Region.wanted o (yielded (l.take n).toArray a.tmps) = Region.wanted o (yielded l.toArray a.tmps) := by
   unfold Region.wanted
   cases hgo : o.guard with
   | none => rfl
   | some g =>
    have hlt := hg g hgo
    have e2 : (l.take n).toArray[g.1]? = l.toArray[g.1]? := by simp [show g.1 < n by omega]
    have e3 : yielded (l.take n).toArray a.tmps g.1 = yielded l.toArray a.tmps g.1 := by unfold yielded; rw [e2]
    simp only [e3]
  dsimp only at h ⊢
  rw [hw] at h
  exact h
theorem least {p : Nat → Bool} : ∀ (n : Nat), (∃ j, j < n ∧ p j = false) → ∃ j, j < n ∧ p j = false ∧ ∀ k, k < j → p k = true
 | 0, ⟨j, hj, _⟩ => absurd hj (by omega)
 | n + 1, ⟨j, hj, hp⟩ => by
  by_cases h : ∃ k, k < n ∧ p k = false
  · obtain ⟨k, h1, h2, h3⟩ := least n h
    exact ⟨k, by omega, h2, h3⟩
  · have hjn : j = n := by
     apply Classical.byContradiction
     intro hne
     exact h ⟨j, by omega, hp⟩
    subst hjn
    refine ⟨j, hj, hp, fun k hk => ?_⟩
    cases hpk : p k
    · exact absurd ⟨k, hk, hpk⟩ h
    · rfl
theorem tail_any (hk : Ok l n) {Qa : Act → Prop} {Q : Exit → Act → World → Prop} (hQ : ∀ a w, C w → Qa a → wpList P l.toArray Q (l.drop n) a w) :
 ∀ (fuel : Nat) (lh la : Array Bool) (a : Act) (w : World), C w → Fit l n lh la → lh.toList.count false = fuel → wpAnyQ P .any (l.take n).toArray C Qa fuel lh a → wpAny P .any l.toArray Q (fuel + (l.length - n)) la a w
 | 0, lh, la, a, w, hw, hf, hc, h => by
  have hall : ∀ j, j < n → la[j]? = some true := by
   intro j hj
   rw [hf.same j hj]
   have hlt : j < lh.size := by rw [hf.size]; exact hj
   rw [Array.getElem?_eq_getElem hlt]
   cases hb : lh[j]
   · exfalso
     have : false ∈ lh.toList := by rw [← hb]; simp
     have := List.count_pos_iff.2 this
     omega
   · rfl
  have hla : la = Array.replicate n true ++ Array.replicate (l.length - n) false := by
   apply Array.ext_getElem?
   intro j
   by_cases h1 : j < n
   · rw [hall j h1, Array.getElem?_append_left (by simpa using h1)]
     simp [h1]
   · rw [Array.getElem?_append_right (by simpa using (by omega : n ≤ j))]
     by_cases h2 : j < l.length
     · rw [hf.rest j (by omega) h2, Array.getElem?_replicate]
       simp
       omega
     · rw [Array.getElem?_eq_none (by rw [hf.sizeAll]; omega), Array.getElem?_eq_none (by simp; omega)]
  subst hla
  have := wpAny_of_seq (P := P) (md := .any) (ops := l.toArray) (Q' := Q) (l.drop n) n (Array.replicate n true ++ Array.replicate (l.length - n) false) a w (fun j => by simp [List.getElem?_drop]) (by simpa using hk.seq) (hQ a w hw h.2)
  simpa using this
 | fuel + 1, lh, la, a, w, hw, hf, hc, h => by
  have hsome : ∃ j, j < n ∧ lh.getD j true = false := by
   have : false ∈ lh.toList := List.count_pos_iff.1 (by omega)
   obtain ⟨j, hj, hb⟩ := List.getElem_of_mem this
   have hj' : j < lh.size := by simpa using hj
   refine ⟨j, by rw [← hf.size]; exact hj', ?_⟩
   simp only [Array.getElem_toList] at hb
   simp [hj', hb]
  have hgd : ∀ j, j < n → la.getD j true = lh.getD j true := fun j hj => by
   have := hf.same j hj
   rw [Array.getD_eq_getD_getElem?, Array.getD_eq_getD_getElem?, this]
  have hgd' : ∀ j, j < n → la.getD j false = lh.getD j false := fun j hj => by
   have := hf.same j hj
   rw [Array.getD_eq_getD_getElem?, Array.getD_eq_getD_getElem?, this]
  have hboth : ∀ j, j < n → lh.getD j false = lh.getD j true := fun j hj => by
   have hlt : j < lh.size := by rw [hf.size]; exact hj
   simp [hlt]
  obtain ⟨j, hj, hpj, hmin⟩ := least (p := fun j => lh.getD j true) n hsome
  have hready : j ∈ Region.ready .any l.toArray la := by
   rw [mem_ready]
   obtain ⟨o, ho⟩ : ∃ o, l[j]? = some o := ⟨l[j]'(by have := hk.lt; omega), List.getElem?_eq_getElem (by have := hk.lt; omega)⟩
   refine ⟨by rw [hgd j hj]; exact hpj, o, by simpa using ho, fun e he _ => ?_⟩
   have h1 := (hk.head j o hj ho).2 e he
   rw [hgd' _ (by omega), hboth _ (by omega)]
   exact hmin _ h1
  have key : (Region.ready .any l.toArray la = [] → Q .normal a w) ∧ ∀ i ∈ Region.ready .any l.toArray la, wpOp P l.toArray Q i (wpAny P .any l.toArray Q (fuel + (l.length - n)) (la.setIfInBounds i true)) a w := by
   refine ⟨fun h0 => (by rw [h0] at hready; cases hready), fun i hi => ?_⟩
   rw [mem_ready] at hi
   obtain ⟨hi0, o, ho, hall⟩ := hi
   have ho' : l[i]? = some o := by simpa using ho
   have hin : i < n := by
    apply Classical.byContradiction
    intro hni
    by_cases hin0 : i = n
    · subst hin0
      exact stuck hk hf i j hj (by omega) (by rw [hgd j hj]; exact hpj) (mem_ready.2 ⟨hi0, o, ho, hall⟩)
    · obtain ⟨e, he, hb, hon⟩ := hk.tail i o (by omega) ho'
      have h1 := hall e he hb
      have hlt : i < l.length := (List.getElem?_eq_some_iff.1 ho').1
      have h2 := hf.rest e.on (by omega) (by omega)
      rw [Array.getD_eq_getD_getElem?, h2] at h1
      cases h1
   have hih : i ∈ Region.ready .any (l.take n).toArray lh := by
    rw [mem_ready]
    refine ⟨by rw [← hgd i hin]; exact hi0, o, by simp [hin, ho'], fun e he hb => ?_⟩
    have h1 := (hk.head i o hin ho').2 e he
    rw [← hgd' _ (by omega)]
    exact hall e he hb
   refine wpOp_of_qOp hw (fun a' w' hw' hK => ?_) (qOp_all hk hin (h.2 i hih))
   refine tail_any hk hQ fuel _ _ a' w' hw' (hf.set hin (fun o1 ho1 e he hb => by rw [ho'] at ho1; cases ho1; exact hall e he hb)) ?_ hK
   have hlt : i < lh.toList.length := by simpa [hf.size] using hin
   have hfalse : lh.toList[i] = false := by
    have h2 : lh.getD i true = false := by rw [← hgd i hin]; exact hi0
    have hlt' : i < lh.size := by simpa using hlt
    simpa [hlt'] using h2
   rw [Array.toList_setIfInBounds, List.count_set hlt, hfalse, hc]
   simp
  rw [show fuel + 1 + (l.length - n) = (fuel + (l.length - n)) + 1 by omega]
  exact key
theorem wp_region_quiet_tail {id : Nat} {Q : Exit → Act → World → Prop} {a : Act} {w : World} (n : Nat) (hm : P.follows .mixedOrders = true) (hB : Region.lexB .any (l.take n).toArray = true) (hT : okB l n = true) (hC : C { w with drawn := w.drawn + 1 })
 (h : wpQuiet P (l.take n).toArray C (fun a' => ∀ w', C w' → wpList P l.toArray Q (l.drop n) a' w') (l.take n) a) : (Code.region id l.toArray true).wp P Q a w := by
 have hk := ok_of hT
 simp only [Region.lexB, Bool.and_eq_true] at hB
 have hlen : (l.take n).length = n := by simp; have := hk.lt; omega
 have h1 := wpAnyQ_lex (P := P) (C := C) (md := .any) (ops := (l.take n).toArray) hB.1 (l.take n) 0 (Array.replicate n false) a (by simp) (by simpa [hlen] using hB.2) h
 refine wp_region_any hm ?_
 have h2 := tail_any (P := P) (Q := Q) hk (Qa := fun a' => ∀ w', C w' → wpList P l.toArray Q (l.drop n) a' w') (fun a w hw h => h w hw) (l.take n).length (Array.replicate n false) (Array.replicate l.length false) a { w with drawn := w.drawn + 1 } hC
  ⟨by simp, by simp, fun j hj => by have := hk.lt; rw [Array.getElem?_replicate, Array.getElem?_replicate, if_pos hj, if_pos (by omega)], fun j h1 h2 => by simp [h2], fun j o hj ht => by rw [Array.getElem?_replicate] at ht; split at ht <;> cases ht⟩ (by simp [hlen]) h1
 rw [hlen, show n + (l.length - n) = l.length by have := hk.lt; omega] at h2
 simpa using h2
open Go.Sort Go.RowKit in
theorem wp_region_below_tail {id : Nat} {Q : Exit → Act → World → Prop} {a : Act} {w : World} (n : Nat) (hm : P.follows .mixedOrders = true) (hB : Region.lexB .any (l.take n).toArray = true) (hT : okB l n = true)
 (h : wpQuiet P (l.take n).toArray (fun w' => ∃ p : Regrown, w' = grow (redrawn w p.d) p.os) (fun a' => ∀ w', (∃ p : Regrown, w' = grow (redrawn w p.d) p.os) → wpList P l.toArray Q (l.drop n) a' w') (l.take n) a) : (Code.region id l.toArray true).wp P Q a w :=
 wp_region_quiet_tail (C := fun w' => ∃ p : Regrown, w' = grow (redrawn w p.d) p.os) n hm hB hT ⟨⟨w.drawn + 1, #[]⟩, by rw [grow_empty]; rfl⟩ h
end Go.Proofs.YteclpblfleakhaaGreatDoor.Tail

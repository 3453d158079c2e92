import Derived.Test.YthjdacbgcpldjaaDoorPkInsRise
import Derived.Test.YthjdacbgcpldjaaDoorPkInsRefRise
import Derived.Test.YthjdacbgcpldjaaDoorPkUpB
import Derived.Test.YthjdacbgcpldjaaDoorPkWhenTrip

/-
  The laws' own chapter, costs, not and alike.
-/
namespace Go.Proofs.YthjdacbgcpldjaaDoor.Ins
open Go.RowKit Go.Sort Go.Proofs.YthjdacbgcpldjaaDoor.Mem Go.Proofs.YthjdacbgcpldjaaDoor.Route Go.Proofs.YthjdacbgcpldjaaDoor.When Go.Proofs.YthjdacbgcpldjaaDoor.Load
set_option linter.unusedVariables false

theorem row_of {W : World} {g : Nat} {t : TypeId} {cs : Array Value} {l : List (Int × Int)} (h : At W g t cs) (hcs : cs.toList = flatS l) {k c : Nat} (hk : k ≤ l.length) (hc : k ≤ c) (hm : c ≤ maxLen) : Row W.heap.size W (.slice (some ⟨g, 0, none⟩) k c) (l.take k) := by
  have h1 := RowB.of_at (B := W.heap.size) (m := 2) (cap := c) (rows := (l.take k).map stV) h h.inside (fun r hr => by obtain ⟨s, _, rfl⟩ := List.mem_map.1 hr; rfl)
    (fun i u hu => by
      have e : flatS l = ((l.take k).map stV).flatten ++ ((l.drop k).map stV).flatten := by unfold flatS; rw [← List.flatten_append, ← List.map_append, List.take_append_drop]
      have : cs.toList[i]? = some u := by
        rw [hcs, e, List.getElem?_append_left (List.getElem?_eq_some_iff.1 hu).1]
        exact hu
      simpa using this) (by simp; omega) hm
  simp only [List.length_map, List.length_take, Nat.min_eq_left hk] at h1
  exact h1
theorem rqs_of {W : World} {g : Nat} {t : TypeId} {cs : Array Value} {l : List Rq} (h : At W g t cs) (hcs : cs.toList = (l.map rqV).flatten) {k c : Nat} (hk : k ≤ l.length) (hc : k ≤ c) (hm : c ≤ maxLen) : Rqs W.heap.size W (.slice (some ⟨g, 0, none⟩) k c) (l.take k) := by
  have h1 := RowB.of_at (B := W.heap.size) (m := 10) (cap := c) (rows := (l.take k).map rqV) h h.inside (fun r hr => by obtain ⟨s, _, rfl⟩ := List.mem_map.1 hr; rfl)
    (fun i u hu => by
      have e : (l.map rqV).flatten = ((l.take k).map rqV).flatten ++ ((l.drop k).map rqV).flatten := by rw [← List.flatten_append, ← List.map_append, List.take_append_drop]
      have : cs.toList[i]? = some u := by
        rw [hcs, e, List.getElem?_append_left (List.getElem?_eq_some_iff.1 hu).1]
        exact hu
      simpa using this) (by simp; omega) hm
  simp only [List.length_map, List.length_take, Nat.min_eq_left hk] at h1
  exact h1
theorem nums_small {l : List (Int × Int)} (h : ∀ s ∈ l, (-1000 ≤ s.1 ∧ s.1 ≤ 1000) ∧ -1000 ≤ s.2 ∧ s.2 ≤ 1000) : Nums l := fun s hs => by
  have := h s hs
  unfold I64
  omega
theorem res_parts {fn : Func} {p c d : Tmp} (h : fn.results = #[.cell p 28, .tmp c, .tmp d]) {tmps : Array Value} {w : World} {g : Nat} {x0 x1 x2 x3 x4 b b2 : Value} (hp : tmps.getD p undef = .pointer (some ⟨g, 0, none⟩)) (hc : tmps.getD c undef = b) (hd : tmps.getD d undef = b2)
    (c0 : w.cell? ⟨g, 0, none⟩ = some x0) (c1 : w.cell? ⟨g, 1, none⟩ = some x1) (c2 : w.cell? ⟨g, 2, none⟩ = some x2) (c3 : w.cell? ⟨g, 3, none⟩ = some x3) (c4 : w.cell? ⟨g, 4, none⟩ = some x4) : (results fn tmps).run Tryd.prog w = .ok (.tuple #[.agg #[x0, x1, x2, x3, x4], b, b2]) w := by
  have hp' : tmps[p]?.getD undef = .pointer (some ⟨g, 0, none⟩) := by simpa using hp
  have hc' : tmps[c]?.getD undef = b := by simpa using hc
  have hd' : tmps[d]?.getD undef = b2 := by simpa using hd
  simp only [results, h]
  go_simp

def vW : Vh := ⟨0, 0, 5, 0, 40⟩
def qW0 : Rq := ⟨5, 0, 9, 0, 0, 20, 0, 30, 3, 1⟩
def qW1 : Rq := ⟨5, 3, 9, 3, 0, 40, 0, 40, 2, 0⟩
def tW : List Rq := [qW0, qW1]
def lW : List (Int × Int) := [(0, 0), (0, 1)]
theorem lW_nums : Nums lW := nums_small (by decide)

set_option maxRecDepth 100000 in
set_option maxHeartbeats 2000000 in
theorem chapter_any (w : World) : Calls Tryd.prog 24 #[] w fun e w' => (∃ gl gt, e = .returned (.tuple #[.agg #[.int .i64 0, .int .i64 0, .int .i64 5, .int .i64 0, .int .i64 40], .slice (some ⟨gl, 0, none⟩) 2 2, .slice (some ⟨gt, 0, none⟩) 2 2]) ∧
    At w' gl 66 #[.int .i64 0, .int .i64 0, .int .i64 0, .int .i64 1] ∧ At w' gt 60 #[.int .i64 5, .int .i64 0, .int .i64 9, .int .i64 0, .int .i64 0, .int .i64 20, .int .i64 0, .int .i64 30, .int .i64 3, .int .i64 1, .int .i64 5, .int .i64 3, .int .i64 9, .int .i64 3, .int .i64 0, .int .i64 40, .int .i64 0, .int .i64 40, .int .i64 2, .int .i64 0]) ∧ Below w.heap.size w w' := by
  go_enter Tryd.func24, Tryd.ntmps24
  · go_wp2
    refine bodyPost_ret (res_parts rfl rfl rfl rfl (x0 := .int .i64 0) (x1 := .int .i64 0) (x2 := .int .i64 5) (x3 := .int .i64 0) (x4 := .int .i64 40) (by go_simp) (by go_simp) (by go_simp) (by go_simp) (by go_simp)) rfl ?_
    refine ⟨⟨_, _, rfl, ?_, ?_⟩, ?_⟩
    · repeat (first | (with_reducible refine At.new_ _ _ _ ?_; simp; done) | with_reducible refine At.far ?_ (by simp <;> omega) _ _ | with_reducible refine At.drew ?_ | with_reducible refine At.alloc ?_ _)
    · repeat (first | (with_reducible refine At.new_ _ _ _ ?_; simp; done) | with_reducible refine At.far ?_ (by simp <;> omega) _ _ | with_reducible refine At.drew ?_ | with_reducible refine At.alloc ?_ _)
    · repeat (first | with_reducible refine Below.drew ?_ | with_reducible refine Below.setCell ?_ (by simp) _ | with_reducible refine Below.alloc ?_ (by simp <;> omega) _ | with_reducible exact Below.refl _ _)

set_option maxRecDepth 100000 in
set_option maxHeartbeats 2000000 in
theorem costs_yes (v : Vh) (vl vt : Value) (l : List (Int × Int)) (t : List Rq) (hl : l.length ≤ 1000000) (hnum : Nums l) (r i j x : Int) (hV : riseV v l t r i j = x) (hE : riseE v l t r i j = 0) (w : World) (hsg : Sg w) (hL : Row w.heap.size w vl l) (hT : Rqs w.heap.size w vt t) :
    Calls Tryd.prog 27 #[.agg #[.int .i64 v.hx, .int .i64 v.hy, .int .i64 v.cp, .int .i64 v.st, .int .i64 v.en], vl, vt, .agg #[.int .i64 r, .int .i64 i, .int .i64 j], .int .i64 x] w fun e w' => e = .returned (.bool true) ∧ Below w.heap.size w w' := by
  obtain ⟨q, hq⟩ : ∃ q, w.heap.size = q := ⟨_, rfl⟩
  obtain ⟨w0, hw0⟩ : ∃ w0, (w.alloc (.cells #[.int .i64 v.hx, .int .i64 v.hy, .int .i64 v.cp, .int .i64 v.st, .int .i64 v.en] 28)).alloc (.cells #[.int .i64 r, .int .i64 i, .int .i64 j] 36) = w0 := ⟨_, rfl⟩
  have hB0 : Below w.heap.size w w0 := by rw [← hw0]; exact ((Below.refl _ _).alloc (Nat.le_refl _) _).alloc (by simp) _
  have hP : At w0 q 28 #[.int .i64 v.hx, .int .i64 v.hy, .int .i64 v.cp, .int .i64 v.st, .int .i64 v.en] := by rw [← hw0]; exact (At.new_ _ _ _ hq.symm).alloc _
  have hR : At w0 (q + 1) 36 #[.int .i64 r, .int .i64 i, .int .i64 j] := by rw [← hw0]; exact At.new_ _ _ _ (by simp [hq])
  have hC := Rise_any v vl vt l t hl hnum r i j w0 (hsg.on hB0) (hL.on hB0) (hT.on hB0)
  rw [hV, hE] at hC
  obtain ⟨xl, Nl, capl, rfl, hNl, hl0, hlc1, hlc2⟩ := hL.opened
  obtain ⟨xt, Nt, capt, rfl, hNt0, htc1, htc2, ht0⟩ := hT.opened
  have p0 := hP.cell 0
  have p1 := hP.cell 1
  have p2 := hP.cell 2
  have p3 := hP.cell 3
  have p4 := hP.cell 4
  have r0 := hR.cell 0
  have r1 := hR.cell 1
  have r2 := hR.cell 2
  simp at p0 p1 p2 p3 p4 r0 r1 r2
  have hs0 := hP.inside
  have hs1 := hR.inside
  have hB0' := Lib.hid hB0
  clear hL hT hl hnum hNl hl0 hNt0 ht0 hsg hV hE hP hR hB0
  go_enter Tryd.func27, Tryd.ntmps27
  go_wp2_with fail
  refine hC.mono ?_
  clear hC p0 p1 p2 p3 p4 r0 r1 r2
  rintro e w1 ⟨rfl, hb1⟩
  have hB1 := Lib.hid (hB0'.out.trans (hb1.mono hB0'.out.size))
  clear hb1
  go_wp2
  go_ret
  exact ⟨Route.ret_bool (by first | rfl | simp), by first | exact hB1.out | (rw [hq]; exact hB1.out) | (rw [← hq]; exact hB1.out)⟩

set_option maxRecDepth 100000 in
set_option maxHeartbeats 2000000 in
theorem not_yes (v : Vh) (vl vt : Value) (l : List (Int × Int)) (t : List Rq) (hl : l.length ≤ 1000000) (hnum : Nums l) (r i j x : Int) (hV : riseV v l t r i j = 0) (hE : riseE v l t r i j = x) (w : World) (hsg : Sg w) (hL : Row w.heap.size w vl l) (hT : Rqs w.heap.size w vt t) :
    Calls Tryd.prog 26 #[.agg #[.int .i64 v.hx, .int .i64 v.hy, .int .i64 v.cp, .int .i64 v.st, .int .i64 v.en], vl, vt, .agg #[.int .i64 r, .int .i64 i, .int .i64 j], .int .i64 x] w fun e w' => e = .returned (.bool true) ∧ Below w.heap.size w w' := by
  obtain ⟨q, hq⟩ : ∃ q, w.heap.size = q := ⟨_, rfl⟩
  obtain ⟨w0, hw0⟩ : ∃ w0, (w.alloc (.cells #[.int .i64 v.hx, .int .i64 v.hy, .int .i64 v.cp, .int .i64 v.st, .int .i64 v.en] 28)).alloc (.cells #[.int .i64 r, .int .i64 i, .int .i64 j] 36) = w0 := ⟨_, rfl⟩
  have hB0 : Below w.heap.size w w0 := by rw [← hw0]; exact ((Below.refl _ _).alloc (Nat.le_refl _) _).alloc (by simp) _
  have hP : At w0 q 28 #[.int .i64 v.hx, .int .i64 v.hy, .int .i64 v.cp, .int .i64 v.st, .int .i64 v.en] := by rw [← hw0]; exact (At.new_ _ _ _ hq.symm).alloc _
  have hR : At w0 (q + 1) 36 #[.int .i64 r, .int .i64 i, .int .i64 j] := by rw [← hw0]; exact At.new_ _ _ _ (by simp [hq])
  have hC := Rise_any v vl vt l t hl hnum r i j w0 (hsg.on hB0) (hL.on hB0) (hT.on hB0)
  rw [hV, hE] at hC
  obtain ⟨xl, Nl, capl, rfl, hNl, hl0, hlc1, hlc2⟩ := hL.opened
  obtain ⟨xt, Nt, capt, rfl, hNt0, htc1, htc2, ht0⟩ := hT.opened
  have p0 := hP.cell 0
  have p1 := hP.cell 1
  have p2 := hP.cell 2
  have p3 := hP.cell 3
  have p4 := hP.cell 4
  have r0 := hR.cell 0
  have r1 := hR.cell 1
  have r2 := hR.cell 2
  simp at p0 p1 p2 p3 p4 r0 r1 r2
  have hs0 := hP.inside
  have hs1 := hR.inside
  have hB0' := Lib.hid hB0
  clear hL hT hl hnum hNl hl0 hNt0 ht0 hsg hV hE hP hR hB0
  go_enter Tryd.func26, Tryd.ntmps26
  go_wp2_with fail
  refine hC.mono ?_
  clear hC p0 p1 p2 p3 p4 r0 r1 r2
  rintro e w1 ⟨rfl, hb1⟩
  have hB1 := Lib.hid (hB0'.out.trans (hb1.mono hB0'.out.size))
  clear hb1
  go_wp2
  go_ret
  exact ⟨Route.ret_bool (by first | rfl | simp), by first | exact hB1.out | (rw [hq]; exact hB1.out) | (rw [← hq]; exact hB1.out)⟩

set_option maxRecDepth 100000 in
set_option maxHeartbeats 2000000 in
theorem alike_any (v : Vh) (vl vt : Value) (l : List (Int × Int)) (t : List Rq) (hl : l.length ≤ 1000000) (hnum : Nums l) (r i j : Int) (w : World) (hsg : Sg w) (hL : Row w.heap.size w vl l) (hT : Rqs w.heap.size w vt t) :
    Calls Tryd.prog 11 #[.agg #[.int .i64 v.hx, .int .i64 v.hy, .int .i64 v.cp, .int .i64 v.st, .int .i64 v.en], vl, vt, .int .i64 r, .int .i64 i, .int .i64 j] w fun e w' => e = .returned (.bool true) ∧ Below w.heap.size w w' := by
  obtain ⟨q, hq⟩ : ∃ q, w.heap.size = q := ⟨_, rfl⟩
  obtain ⟨w0, hw0⟩ : ∃ w0, w.alloc (.cells #[.int .i64 v.hx, .int .i64 v.hy, .int .i64 v.cp, .int .i64 v.st, .int .i64 v.en] 28) = w0 := ⟨_, rfl⟩
  have hb0 : Below w.heap.size w w0 := by rw [← hw0]; exact (Below.refl _ _).alloc (Nat.le_refl _) _
  have hP0 : Hid (At w0 q 28 #[.int .i64 v.hx, .int .i64 v.hy, .int .i64 v.cp, .int .i64 v.st, .int .i64 v.en]) := Lib.hid (by rw [← hw0]; exact At.new_ _ _ _ hq.symm)
  have hsg0 := Lib.hid (hsg.on hb0)
  have hL0 := Lib.hid (hL.on hb0)
  have hT0 := Lib.hid (hT.on hb0)
  have hB0 := Lib.hid hb0
  have hl' := Lib.hid hl
  have hnum' := Lib.hid hnum
  obtain ⟨xl, Nl, capl, rfl, hNl, hl0, hlc1, hlc2⟩ := hL.opened
  obtain ⟨xt, Nt, capt, rfl, hNt0, htc1, htc2, ht0⟩ := hT.opened
  obtain ⟨A, hA⟩ : ∃ A, riseV v l t r i j = A := ⟨_, rfl⟩
  obtain ⟨E, hE⟩ : ∃ E, riseE v l t r i j = E := ⟨_, rfl⟩
  obtain ⟨D, hD⟩ : ∃ D, detV v l t r i j = D := ⟨_, rfl⟩
  obtain ⟨F, hF⟩ : ∃ F, withE v l t r i j = F := ⟨_, rfl⟩
  have hA' := Lib.hid hA
  have hE' := Lib.hid hE
  have hD' := Lib.hid hD
  have hF' := Lib.hid hF
  have hq' := Lib.hid hq
  clear hL hT hl hnum hNl hl0 hNt0 ht0 hsg hb0 hA hE hD hF
  go_enter Tryd.func11, Tryd.ntmps11
  have hC := Rise_any v _ _ l t hl'.out hnum'.out r i j w0 hsg0.out hL0.out hT0.out
  rw [hA'.out, hE'.out] at hC
  have p0 := hP0.out.cell 0
  have p1 := hP0.out.cell 1
  have p2 := hP0.out.cell 2
  have p3 := hP0.out.cell 3
  have p4 := hP0.out.cell 4
  simp at p0 p1 p2 p3 p4
  have hs0 := hP0.out.inside
  go_wp2_with fail
  refine hC.mono ?_
  clear hC p0 p1 p2 p3 p4 hq hw0
  rintro e w1 ⟨rfl, hb1⟩
  have hP1 := Lib.hid (hP0.out.keep hb1 hs0)
  have hsg1 := Lib.hid (hsg0.out.on hb1)
  have hL1 := Lib.hid (hL0.out.on hb1)
  have hT1 := Lib.hid (hT0.out.on hb1)
  have hB1 := Lib.hid (hB0.out.trans (hb1.mono hB0.out.size))
  clear hb1 hs0 hP0 hsg0 hL0 hT0 hB0
  have hC := refRise_any v _ _ l t hl'.out hnum'.out r i j w1 hL1.out hT1.out
  rw [hA'.out, hE'.out] at hC
  have p0 := hP1.out.cell 0
  have p1 := hP1.out.cell 1
  have p2 := hP1.out.cell 2
  have p3 := hP1.out.cell 3
  have p4 := hP1.out.cell 4
  simp at p0 p1 p2 p3 p4
  have hs1 := hP1.out.inside
  go_wp2_with fail
  refine hC.mono ?_
  clear hC p0 p1 p2 p3 p4
  rintro e w2 ⟨rfl, hb2⟩
  have hP2 := Lib.hid (hP1.out.keep hb2 hs1)
  have hsg2 := Lib.hid (hsg1.out.on hb2)
  have hL2 := Lib.hid (hL1.out.on hb2)
  have hT2 := Lib.hid (hT1.out.on hb2)
  have hB2 := Lib.hid (hB1.out.trans (hb2.mono hB1.out.size))
  clear hb2 hs1 hP1 hsg1 hL1 hT1 hB1
  have hC := Detour_any v _ _ l t hl'.out hnum'.out r i j w2 hL2.out hT2.out
  rw [hD'.out, hF'.out] at hC
  have p0 := hP2.out.cell 0
  have p1 := hP2.out.cell 1
  have p2 := hP2.out.cell 2
  have p3 := hP2.out.cell 3
  have p4 := hP2.out.cell 4
  simp at p0 p1 p2 p3 p4
  have hs2 := hP2.out.inside
  go_wp2_with fail
  refine hC.mono ?_
  clear hC p0 p1 p2 p3 p4
  rintro e w3 ⟨rfl, hb3⟩
  have hP3 := Lib.hid (hP2.out.keep hb3 hs2)
  have hsg3 := Lib.hid (hsg2.out.on hb3)
  have hL3 := Lib.hid (hL2.out.on hb3)
  have hT3 := Lib.hid (hT2.out.on hb3)
  have hB3 := Lib.hid (hB2.out.trans (hb3.mono hB2.out.size))
  clear hb3 hs2 hP2 hsg2 hL2 hT2 hB2
  have hC := refDetour_any v _ _ l t hl'.out hnum'.out r i j w3 hL3.out hT3.out
  rw [hD'.out, hF'.out] at hC
  have p0 := hP3.out.cell 0
  have p1 := hP3.out.cell 1
  have p2 := hP3.out.cell 2
  have p3 := hP3.out.cell 3
  have p4 := hP3.out.cell 4
  simp at p0 p1 p2 p3 p4
  have hs3 := hP3.out.inside
  go_wp2_with fail
  refine hC.mono ?_
  clear hC p0 p1 p2 p3 p4
  rintro e w4 ⟨rfl, hb4⟩
  have hP4 := Lib.hid (hP3.out.keep hb4 hs3)
  have hsg4 := Lib.hid (hsg3.out.on hb4)
  have hL4 := Lib.hid (hL3.out.on hb4)
  have hT4 := Lib.hid (hT3.out.on hb4)
  have hB4 := Lib.hid (hB3.out.trans (hb4.mono hB3.out.size))
  clear hb4 hs3 hP3 hsg3 hL3 hT3 hB3
  go_wp2
  go_ret
  exact ⟨Route.ret_bool (by first | rfl | simp), by first | exact hB4.out | (rw [hq'.out]; exact hB4.out) | (rw [← hq'.out]; exact hB4.out)⟩

end Go.Proofs.YthjdacbgcpldjaaDoor.Ins

/-
  'works': the chapter's examples hold. Generated: InsWorks.gen.py.
-/
namespace Go.Proofs.YthjdacbgcpldjaaDoor.Ins
open Go.RowKit Go.Sort Go.Shelf Go.Proofs.YthjdacbgcpldjaaDoor.Mem Go.Proofs.YthjdacbgcpldjaaDoor.Route Go.Proofs.YthjdacbgcpldjaaDoor.When Go.Proofs.YthjdacbgcpldjaaDoor.Load Go.Proofs.YthjdacbgcpldjaaDoor.Up
set_option linter.unusedVariables false

attribute [local go_sem] Oper.semAt_some

def vS : Vh := ⟨0, 0, 4, 0, 40⟩
def vH : Vh := ⟨0, 0, 5, 0, 33⟩
theorem wkV0 : riseV vW lW tW 1 1 1 = 6 := by decide +kernel
theorem wkE0 : riseE vW lW tW 1 1 1 = 0 := by decide +kernel
theorem wkV1 : riseV vW lW tW 1 1 2 = 12 := by decide +kernel
theorem wkE1 : riseE vW lW tW 1 1 2 = 0 := by decide +kernel
theorem wkV2 : riseV vW lW tW 1 2 2 = 14 := by decide +kernel
theorem wkE2 : riseE vW lW tW 1 2 2 = 0 := by decide +kernel
theorem wkV3 : riseV vW lW tW 1 0 0 = 14 := by decide +kernel
theorem wkE3 : riseE vW lW tW 1 0 0 = 0 := by decide +kernel
theorem wkV4 : riseV vS lW tW 1 1 1 = 0 := by decide +kernel
theorem wkE4 : riseE vS lW tW 1 1 1 = 10 := by decide +kernel
theorem wkV5 : riseV vS lW tW 1 2 2 = 14 := by decide +kernel
theorem wkE5 : riseE vS lW tW 1 2 2 = 0 := by decide +kernel
theorem wkV6 : riseV vH lW tW 1 2 2 = 0 := by decide +kernel
theorem wkE6 : riseE vH lW tW 1 2 2 = 9 := by decide +kernel
theorem wkV7 : riseV vW lW tW 0 0 0 = 0 := by decide +kernel
theorem wkE7 : riseE vW lW tW 0 0 0 = 8 := by decide +kernel
theorem wkV8 : riseV vW lW tW 2 0 0 = 0 := by decide +kernel
theorem wkE8 : riseE vW lW tW 2 0 0 = 8 := by decide +kernel
theorem wkV9 : riseV vW lW tW 1 2 1 = 0 := by decide +kernel
theorem wkE9 : riseE vW lW tW 1 2 1 = 8 := by decide +kernel
theorem wkV10 : riseV vW [] tW 1 0 0 = 24 := by decide +kernel
theorem wkE10 : riseE vW [] tW 1 0 0 = 0 := by decide +kernel
theorem wkD0 : detV vW lW tW 1 1 2 = 12 := by decide +kernel
theorem wkD1 : detV vW lW tW 1 0 0 = 14 := by decide +kernel
theorem wkW0 : withE vW lW tW 1 1 2 = 0 := by decide +kernel
theorem wkW1 : withE vW lW tW 1 0 0 = 0 := by decide +kernel
theorem nil_nums : Nums [] := fun s h => by cases h
theorem pairs_one : pairsL 1 = [(0, 0), (0, 1), (1, 1)] := by decide +kernel
theorem pairs_no : pairsL (-1) = [] := by decide +kernel

/-- What 'works' holds. -/
structure WkAt (w : World) (q gv gs gh gl gt : Nat) (W : World) : Prop where
  r : At W q 4 #[.bool false]
  v : At W gv 28 #[.int .i64 0, .int .i64 0, .int .i64 5, .int .i64 0, .int .i64 40]
  s : At W gs 28 #[.int .i64 0, .int .i64 0, .int .i64 4, .int .i64 0, .int .i64 40]
  h : At W gh 28 #[.int .i64 0, .int .i64 0, .int .i64 5, .int .i64 0, .int .i64 33]
  l : At W gl 66 #[.int .i64 0, .int .i64 0, .int .i64 0, .int .i64 1]
  t : At W gt 60 #[.int .i64 5, .int .i64 0, .int .i64 9, .int .i64 0, .int .i64 0, .int .i64 20, .int .i64 0, .int .i64 30, .int .i64 3, .int .i64 1, .int .i64 5, .int .i64 3, .int .i64 9, .int .i64 3, .int .i64 0, .int .i64 40, .int .i64 0, .int .i64 40, .int .i64 2, .int .i64 0]
  sg : Sg W
  b : Below w.heap.size w W
theorem WkAt.on {w W W' : World} {q gv gs gh gl gt : Nat} (h : WkAt w q gv gs gh gl gt W) (hb : Below W.heap.size W W') : WkAt w q gv gs gh gl gt W' :=
  ⟨h.r.keep hb h.r.inside, h.v.keep hb h.v.inside, h.s.keep hb h.s.inside, h.h.keep hb h.h.inside, h.l.keep hb h.l.inside, h.t.keep hb h.t.inside, h.sg.on hb, h.b.trans (hb.mono h.b.size)⟩
theorem WkAt.under {w W W' : World} {q gv gs gh gl gt n : Nat} (h : WkAt w q gv gs gh gl gt W) (hb : Below n W W') (hn : q < n ∧ gv < n ∧ gs < n ∧ gh < n ∧ gl < n ∧ gt < n ∧ w.heap.size ≤ n ∧ 0 < n) : WkAt w q gv gs gh gl gt W' :=
  ⟨h.r.keep hb hn.1, h.v.keep hb hn.2.1, h.s.keep hb hn.2.2.1, h.h.keep hb hn.2.2.2.1, h.l.keep hb hn.2.2.2.2.1, h.t.keep hb hn.2.2.2.2.2.1, h.sg.keep hb hn.2.2.2.2.2.2.2, h.b.trans (hb.mono hn.2.2.2.2.2.2.1)⟩
theorem WkAt.row {w W : World} {q gv gs gh gl gt : Nat} (h : WkAt w q gv gs gh gl gt W) : Row W.heap.size W (.slice (some ⟨gl, 0, none⟩) 2 2) lW := row_of (l := lW) (k := 2) h.l rfl (by decide) (by decide) (by decide)
theorem WkAt.rqs {w W : World} {q gv gs gh gl gt : Nat} (h : WkAt w q gv gs gh gl gt W) : Rqs W.heap.size W (.slice (some ⟨gt, 0, none⟩) 2 2) tW := rqs_of (l := tW) (k := 2) h.t rfl (by decide) (by decide) (by decide)

/-- What a range over the places of 1 holds: which one comes. -/
structure OneI (n : Nat) (w7 : World) (pre : List (Int × Int)) (W : World) : Prop where
  at_ : At W n 3 #[.int .i64 pre.length]
  num : At W (n + 1) 3 #[.int .i64 1]
  below : Below n w7 W
theorem OneI.old {n m : Nat} {w7 : World} (hn : n ≤ m) (h7 : n ≤ w7.heap.size) : Old m (OneI n w7) := by
  rintro pre A A' row h hg hr
  exact ⟨At.oldCells h.at_ hg hr, At.oldCells h.num hg hr, h.below.grown hg (Nat.le_trans h7 h.below.size) (fun k e => by have := (hr k e).1; omega)⟩
/-- Nothing comes, and nothing turns. -/
structure NoI (b : Nat) (k : Int) (W1 : World) (pre : List (Int × Int)) (W : World) : Prop where
  num : At W b 3 #[.int .i64 k]
  below : Below W1.heap.size W1 W
theorem NoI.old {b : Nat} {k : Int} {W1 : World} {m : Nat} (hm : W1.heap.size ≤ m) : Old m (NoI b k W1) := by
  rintro pre A A' row h hg hr
  exact ⟨At.oldCells h.num hg hr, h.below.grown hg h.below.size (fun k e => by have := (hr k e).1; omega)⟩
theorem one_of {pre rest : List (Int × Int)} {x : Int × Int} (h : pairsL 1 = pre ++ x :: rest) : (pre.length = 0 ∧ x = (0, 0)) ∨ (pre.length = 1 ∧ x = (0, 1)) ∨ (pre.length = 2 ∧ x = (1, 1)) := by
  rw [pairs_one] at h
  rcases pre with _ | ⟨a, _ | ⟨b, _ | ⟨c, pre⟩⟩⟩
  · simp at h; exact .inl ⟨rfl, h.1.symm⟩
  · simp at h; exact .inr (.inl ⟨rfl, h.2.1.symm⟩)
  · simp at h; exact .inr (.inr ⟨rfl, h.2.2.1.symm⟩)
  · simp at h
theorem marked {W W' : World} {d : Nat} {o : Obj} (h : W.heap[d]? = some o) (hb : Below W.heap.size W W') : W'.heap[d]? = some o := (hb.block d (Array.getElem?_eq_some_iff.1 h).1).trans h
theorem putBelow {B : Nat} {w W : World} {d : Nat} {o : Obj} (h : Below B w W) (hd : B ≤ d) (hB : B ≤ W.heap.size) : Below B w (W.putObj d o) := h.grown (grownBy_putObj' _ _ _) hB (fun r e => by cases e; exact hd)

set_option maxRecDepth 100000 in
set_option maxHeartbeats 8000000 in
theorem works_any (w : World) (hsg : Sg w) : Calls Tryd.prog 12 #[] w fun e w' => e = .returned (.bool true) ∧ Below w.heap.size w w' := by
  obtain ⟨q, hq⟩ : ∃ q, w.heap.size = q := ⟨_, rfl⟩
  obtain ⟨w0, hw0⟩ : ∃ w0, w.alloc (.cells #[.bool false] 4) = w0 := ⟨_, rfl⟩
  have hb0 : Below w.heap.size w w0 := by rw [← hw0]; exact (Below.refl _ _).alloc (Nat.le_refl _) _
  have hR0 : At w0 q 4 #[.bool false] := by rw [← hw0]; exact At.new_ _ _ _ hq.symm
  have hsg0 := hsg.on hb0
  refine (callsIn_wide (n := 3)).1 ?_
  refine callsIn_of_wp_marks Tryd.func12 rfl trivial ?_ rfl
  simp only [Tryd.ntmps12, List.size_toArray, List.length_nil, Nat.reduceSub, Array.replicate_succ, Array.replicate_zero, List.push_toArray, List.append_toArray, List.nil_append, List.cons_append]
  refine wpIn_wide.2 ?_
  go_wp2_with fail
  try simp only [hq]
  try rw [hw0]
  refine (chapter_any w0).mono ?_
  rintro e w1 ⟨⟨gl, gt, rfl, hL, hT⟩, hb1⟩
  obtain ⟨p, hp⟩ : ∃ p, w1.heap.size = p := ⟨_, rfl⟩
  obtain ⟨w2, hw2⟩ : ∃ w2, w1.alloc (.cells #[.int .i64 0, .int .i64 0, .int .i64 5, .int .i64 0, .int .i64 40] 28) = w2 := ⟨_, rfl⟩
  have hV : At w2 p 28 #[.int .i64 0, .int .i64 0, .int .i64 5, .int .i64 0, .int .i64 40] := by rw [← hw2]; exact At.new_ _ _ _ hp.symm
  have hb2 : Below w1.heap.size w1 w2 := by rw [← hw2]; exact (Below.refl _ _).alloc (Nat.le_refl _) _
  have hR2 := (hR0.keep hb1 hR0.inside).keep hb2 ((hR0.keep hb1 hR0.inside).inside)
  have hL2 := hL.keep hb2 hL.inside
  have hT2 := hT.keep hb2 hT.inside
  have hB2 := (hb0.trans (hb1.mono hb0.size)).trans (hb2.mono (Nat.le_trans hb0.size hb1.size))
  have hlp : gl < p := by have := hL.inside; omega
  have htp : gt < p := by have := hT.inside; omega
  have hqp : q < p := by have := hR0.inside; have := hb1.size; omega
  have hsg2 := (hsg0.on hb1).on hb2
  have hw2' := Lib.hid hw2
  have hp' := Lib.hid hp
  have hq' := Lib.hid hq
  clear hL hT hb0 hb1 hb2 hw2 hp hq hw0 hR0 hsg hsg0
  go_upto_region 2 with fail
  simp only [hp'.out]
  rw [hw2'.out]
  have hpi := hV.inside
  go_cut [4, 5] from 19 to 20 (fun s4 s5 wx => ∃ gs gh, s4 = .pointer (some ⟨gs, 0, none⟩) ∧ s5 = .pointer (some ⟨gh, 0, none⟩) ∧ gs ≠ gh ∧ w2.heap.size ≤ gs ∧ w2.heap.size ≤ gh ∧ At wx gs 28 #[.int .i64 0, .int .i64 0, .int .i64 5, .int .i64 0, .int .i64 40] ∧ At wx gh 28 #[.int .i64 0, .int .i64 0, .int .i64 5, .int .i64 0, .int .i64 40] ∧ Below w2.heap.size w2 wx)
  case first =>
    have c0 := hV.cell 0
    have c1 := hV.cell 1
    have c2 := hV.cell 2
    have c3 := hV.cell 3
    have c4 := hV.cell 4
    simp at c0 c1 c2 c3 c4
    go_region
    all_goals
      go_wp2_with fail
      go_meet
      refine ⟨_, _, rfl, rfl, by simp, by simp, by simp, ?_, ?_, ?_⟩
      · repeat (first | with_reducible exact At.new_ _ _ _ rfl | (with_reducible refine At.new_ _ _ _ ?_; simp; done) | with_reducible refine At.far ?_ (by simp <;> omega) _ _ | with_reducible refine At.drew ?_ | with_reducible refine At.alloc ?_ _)
      · repeat (first | with_reducible exact At.new_ _ _ _ rfl | (with_reducible refine At.new_ _ _ _ ?_; simp; done) | with_reducible refine At.far ?_ (by simp <;> omega) _ _ | with_reducible refine At.drew ?_ | with_reducible refine At.alloc ?_ _)
      · repeat (first | with_reducible refine Below.drew ?_ | with_reducible refine Below.setCell ?_ (by simp) _ | with_reducible refine Below.alloc ?_ (by simp <;> omega) _ | with_reducible exact Below.refl _ _)
  case rest =>
  obtain ⟨gs, gh, rfl, rfl, hne, hgs, hgh, hS, hH, hb3⟩ := hcut
  obtain ⟨w3, rfl⟩ : ∃ w3, w3 = wc := ⟨_, rfl⟩
  have hR3 := hR2.keep hb3 hR2.inside
  have hV3 := hV.keep hb3 hpi
  have hL3 := hL2.keep hb3 hL2.inside
  have hT3 := hT2.keep hb3 hT2.inside
  have hB3 := hB2.trans (hb3.mono hB2.size)
  have hsg3 := hsg2.on hb3
  have s2 := hS.cell 2
  have sf := hS.free
  have h4 := hH.cell 4
  have hf := hH.free
  simp at s2 h4
  have hltq : p < gs ∧ p < gh := by omega
  have hqw : w.heap.size ≤ p := by have := hq'.out; omega
  go_upto_region 5 with fail
  have hS4 : At ((w3.setCell ⟨gs, 2, none⟩ (.int .i64 4)).setCell ⟨gh, 4, none⟩ (.int .i64 33)) gs 28 #[.int .i64 0, .int .i64 0, .int .i64 4, .int .i64 0, .int .i64 40] := by simpa using (hS.put 2 (.int .i64 4)).far hne 4 (.int .i64 33)
  have hH4 : At ((w3.setCell ⟨gs, 2, none⟩ (.int .i64 4)).setCell ⟨gh, 4, none⟩ (.int .i64 33)) gh 28 #[.int .i64 0, .int .i64 0, .int .i64 5, .int .i64 0, .int .i64 33] := by simpa using (hH.far hne.symm 2 (.int .i64 4)).put 4 (.int .i64 33)
  have hR4 := (hR3.far (b := gs) (by omega) 2 (.int .i64 4)).far (b := gh) (by omega) 4 (.int .i64 33)
  have hV4 := (hV3.far (b := gs) (by omega) 2 (.int .i64 4)).far (b := gh) (by omega) 4 (.int .i64 33)
  have hL4 := (hL3.far (b := gs) (by omega) 2 (.int .i64 4)).far (b := gh) (by omega) 4 (.int .i64 33)
  have hT4 := (hT3.far (b := gs) (by omega) 2 (.int .i64 4)).far (b := gh) (by omega) 4 (.int .i64 33)
  have hB4 := (hB3.setCell (p := ⟨gs, 2, none⟩) (by simp; omega) (.int .i64 4)).setCell (p := ⟨gh, 4, none⟩) (by simp; omega) (.int .i64 33)
  have hsg4 : Sg ((w3.setCell ⟨gs, 2, none⟩ (.int .i64 4)).setCell ⟨gh, 4, none⟩ (.int .i64 33)) := hsg3.keep (((Below.refl w2.heap.size w3).setCell (p := ⟨gs, 2, none⟩) hgs _).setCell (p := ⟨gh, 4, none⟩) hgh _) hsg2.pos
  clear s2 sf h4 hf hV3 hL3 hT3 hB3 hsg3 hS hH hR3 hR2 hV hL2 hT2 hB2 hsg2 hb3
  generalize (w3.setCell ⟨gs, 2, none⟩ (.int .i64 4)).setCell ⟨gh, 4, none⟩ (.int .i64 33) = w4 at *
  have hK4 : WkAt w q p gs gh gl gt w4 := ⟨hR4, hV4, hS4, hH4, hL4, hT4, hsg4, hB4⟩
  have hlt4 : p < w4.heap.size ∧ gs < w4.heap.size ∧ gh < w4.heap.size := ⟨hV4.inside, hS4.inside, hH4.inside⟩
  clear hR4 hV4 hS4 hH4 hL4 hT4 hsg4 hB4 hne hgs hgh hltq hpi hw2' hp'
  obtain ⟨k, hk⟩ : ∃ k, w4.heap.size = k := ⟨_, rfl⟩
  obtain ⟨w5, hw5⟩ : ∃ w5, (w4.alloc (.cells #[.int .i64 0, .int .i64 0, .int .i64 0, .int .i64 1, .int .i64 1, .int .i64 1] 41)).alloc (.cells #[.slice (some ⟨k, 0, none⟩) 3 3] 38) = w5 := ⟨_, rfl⟩
  have hG5 : At w5 k 41 #[.int .i64 0, .int .i64 0, .int .i64 0, .int .i64 1, .int .i64 1, .int .i64 1] := by rw [← hw5]; exact (At.new_ _ _ _ hk.symm).alloc _
  have hO5 : At w5 (k + 1) 38 #[.slice (some ⟨k, 0, none⟩) 3 3] := by rw [← hw5]; exact At.new_ _ _ _ (by simp [hk])
  have hb5 : Below w4.heap.size w4 w5 := by rw [← hw5]; exact ((Below.refl _ _).alloc (Nat.le_refl _) _).alloc (by simp) _
  have hs5 : w5.heap.size = k + 2 := by rw [← hw5]; simp [hk]
  have hK5 := hK4.on hb5
  clear hK4 hb5
  go_wp2_with fail
  try rw [hw5]
  refine (Places_any 1 w5).mono ?_
  rintro e w6 ⟨rfl, hw6⟩
  have hs6 : w6.heap.size = k + 3 := by rw [← hw6]; simp [hs5]
  have hb6 : Below w5.heap.size w5 w6 := by rw [← hw6]; exact (Below.refl _ _).alloc (Nat.le_refl _) _
  clear hw5 hw6 hk
  have hnil := nil_places
  go_wp2_with fail
  refine (Places_any (-1) w6).mono ?_
  rintro e w7 ⟨rfl, hw7⟩
  have hs7 : w7.heap.size = k + 4 := by rw [← hw7]; simp [hs6]
  have hb7 : Below w6.heap.size w6 w7 := by rw [← hw7]; exact (Below.refl _ _).alloc (Nat.le_refl _) _
  have hb57 := hb6.trans (hb7.mono hb6.size)
  have hG7 := hG5.keep hb57 hG5.inside
  have hO7 := hO5.keep hb57 hO5.inside
  have hK7 := hK5.on hb57
  have hlt7 : q < k + 4 ∧ p < k + 4 ∧ gs < k + 4 ∧ gh < k + 4 ∧ gl < k + 4 ∧ gt < k + 4 ∧ w.heap.size ≤ k + 4 ∧ 0 < k + 4 := by
    have := hK7.r.inside; have := hK7.v.inside; have := hK7.s.inside; have := hK7.h.inside; have := hK7.l.inside; have := hK7.t.inside; have := hK7.b.size; omega
  obtain ⟨w8, hw8⟩ : ∃ w8, (w7.alloc (.cells #[.int .i64 0] 3)) = w8 := ⟨_, rfl⟩
  have hA8 : At w8 (k + 4) 3 #[.int .i64 0] := by rw [← hw8]; exact At.new_ _ _ _ hs7.symm
  have hs8 : w8.heap.size = k + 5 := by rw [← hw8]; simp [hs7]
  have hb8 : Below (k + 4) w7 w8 := by rw [← hw8]; exact (Below.refl _ _).alloc (by omega) _
  have hw8' := Lib.hid hw8
  clear hb6 hb7 hb57 hG5 hO5 hK5 hw7 hs5 hs6 hlt4 hw8
  go_wp2_with fail
  rw [hw8'.out]
  clear hnil
  refine (Places_any 1 w8).mono ?_
  rintro e w9 ⟨rfl, hw9⟩
  have hA9 : At w9 (k + 4) 3 #[.int .i64 0] := by rw [← hw9]; exact hA8.alloc _
  have hN9 : At w9 (k + 5) 3 #[.int .i64 1] := by rw [← hw9]; exact At.new_ _ _ _ hs8.symm
  have hs9 : w9.heap.size = k + 6 := by rw [← hw9]; simp [hs8]
  have hb9 : Below (k + 4) w7 w9 := by rw [← hw9]; exact hb8.alloc (by omega) _
  have hI9 : OneI (k + 4) w7 [] w9 := ⟨hA9, hN9, hb9⟩
  have hs7' := Lib.hid hs7
  have hs9' := Lib.hid hs9
  have hs8' := Lib.hid hs8
  clear hw8' hw9 hA8 hb8 hA9 hN9 hb9 hs7 hs8
  go_wp2_with fail
  try simp only [hs8'.out]
  refine (wpIn_wide (n := 3)).1 ?_
  refine rangesRound2 (gf := 47) (fst := #[]) (lb := #[.pointer (some ⟨k + 5, 0, none⟩)]) rfl (enters_of Tryd.func47 (by kernel_rfl) rfl) (encs := encP) (good := fun _ => true) (xs := pairsL 1) (fun _ => rfl)
    (OneI (k + 4) w7) (OneI.old (by omega) (by have := hs7'.out; omega)) hI9 (places_runs 1 (k + 5) _ _ (OneI (k + 4) w7) (fun _ _ h => h.num)) ?round ?done ?stop
  case stop => exact fun _ _ _ h => absurd (fun _ _ => rfl) h
  case round =>
    rintro l2 pre x Wr ⟨rest, hx⟩ hW2 hIr -
    have hcase := one_of hx
    dsimp only [encP]
    gi_wp2
    refine ⟨World.grownBy.refl _ _, fun Vr hVs hVb hI2 => ?_⟩
    have hG := hG7.keep hI2.below (by omega)
    have hO := hO7.keep hI2.below (by omega)
    have o0 := hO.cell 0
    have g0 := hG.cell 0
    have g1 := hG.cell 1
    have g2 := hG.cell 2
    have g3 := hG.cell 3
    have g4 := hG.cell 4
    have g5 := hG.cell 5
    have a0 := hI2.at_.cell 0
    have af := hI2.at_.free 0
    simp at o0 g0 g1 g2 g3 g4 g5 a0
    have hk4 : k + 4 < Vr.heap.size := hI2.at_.inside
    have hI2' := Lib.hid hI2
    have hHs : w9.heap.size + 1 < Vr.heap.size := by omega
    have hHs' := Lib.hid hHs
    clear hG hO hI2 hIr hVb hVs hx hW2
    have fin : ∀ n : Nat, pre.length = n → OneI (k + 4) w7 (pre ++ [x]) (Vr.setCell ⟨k + 4, 0, none⟩ (.int .i64 ((n : Int) + 1))) ∧ Held w9.heap.size Vr (Vr.setCell ⟨k + 4, 0, none⟩ (.int .i64 ((n : Int) + 1))) := fun n hn => by
      refine ⟨⟨?_, hI2'.out.num.far (by omega) _ _, hI2'.out.below.setCell (by simp) _⟩, Held.setCell _ (by omega) (by omega) _⟩
      have := hI2'.out.at_.put 0 (.int .i64 ((n : Int) + 1))
      rw [List.length_append, hn]
      simpa using this
    have fin' := Lib.hid fin
    clear fin
    have he2 := eq2_same
    rcases hcase with ⟨hp, rfl⟩ | ⟨hp, rfl⟩ | ⟨hp, rfl⟩
    · have hf := Lib.hid (fin'.out 0 hp)
      rw [hp] at a0
      clear fin' hp
      gi_wp2
      exact ⟨rfl, by have h9 := hf.out; rw [hs9'.out] at h9; simpa using h9⟩
    · have hf := Lib.hid (fin'.out 1 hp)
      rw [hp] at a0
      clear fin' hp
      gi_wp2
      exact ⟨rfl, by have h9 := hf.out; rw [hs9'.out] at h9; simpa using h9⟩
    · have hf := Lib.hid (fin'.out 2 hp)
      rw [hp] at a0
      clear fin' hp
      gi_wp2
      exact ⟨rfl, by have h9 := hf.out; rw [hs9'.out] at h9; simpa using h9⟩
  case done =>
  rintro Wr hW2 hI2 - hD
  have hKr := hK7.under hI2.below hlt7
  have hqk0 : q < k + 4 := hlt7.1
  have hAr : At Wr (k + 4) 3 #[.int .i64 3] := by have := hI2.at_; rw [pairs_one] at this; exact this
  clear hI2 hK7 hG7 hO7 hlt7 hI9
  have hD1 : Hid (Wr.heap[k + 6]? = some (.deferred (some []))) := Lib.hid (by rw [← hs9'.out]; exact hD)
  have hkr : k + 6 < Wr.heap.size := by have := hs9'.out; omega
  have hs9i : Hid (w9.heap.size = k + 6) := hs9'
  go_wp2_with fail
  refine (Places_any (-1) Wr).mono ?_
  rintro e wa ⟨rfl, hwa⟩
  obtain ⟨m, hm⟩ : ∃ m, Wr.heap.size = m := ⟨_, rfl⟩
  have hsa : wa.heap.size = m + 1 := by rw [← hwa]; simp [hm]
  have hNa : At wa m 3 #[.int .i64 (-1)] := by rw [← hwa]; exact At.new_ _ _ _ hm.symm
  have hba : Below Wr.heap.size Wr wa := by rw [← hwa]; exact (Below.refl _ _).alloc (Nat.le_refl _) _
  have hKa := Lib.hid (hKr.on hba)
  have hAa := Lib.hid (hAr.keep hba hAr.inside)
  have hDa := Lib.hid (marked hD1.out hba)
  have hIa : NoI m (-1) wa [] wa := ⟨hNa, Below.refl _ _⟩
  have hm' := Lib.hid hm
  have hsa' := Lib.hid hsa
  have hkm : k + 6 < m := by omega
  clear hwa hba hNa hKr hAr hD hD1 hm hkr hs9i
  go_wp2_with fail
  try simp only [hm'.out]
  refine (wpIn_wide (n := 3)).1 ?_
  refine rangesRound2 (gf := 47) (fst := #[]) (lb := #[.pointer (some ⟨m, 0, none⟩)]) rfl (enters_of Tryd.func47 (by kernel_rfl) rfl) (encs := encP) (good := fun _ => true) (xs := pairsL (-1)) (fun _ => rfl)
    (NoI m (-1) wa) (NoI.old (Nat.le_refl _)) hIa (places_runs (-1) m _ _ (NoI m (-1) wa) (fun _ _ h => h.num)) ?round ?done ?stop
  case stop => exact fun _ _ _ h => absurd (fun _ _ => rfl) h
  case round =>
    rintro l2 pre x Wr2 ⟨rest, hx⟩
    rw [pairs_no] at hx
    simp at hx
  case done =>
  rintro Wb hWb hIb - hDb
  have hK0 := Lib.hid (hKa.out.on hIb.below)
  have hA0 := Lib.hid (hAa.out.keep hIb.below hAa.out.inside)
  have hM0 := Lib.hid (marked hDa.out hIb.below)
  have hN0 : Hid (Wb.heap[m + 1]? = some (.deferred (some []))) := Lib.hid (by rw [← hsa'.out]; exact hDb)
  clear hIb hDb hIa hWb hKa hAa hDa

  have hVc := hK0.out.v
  have p0 := hVc.cell 0
  have p1 := hVc.cell 1
  have p2 := hVc.cell 2
  have p3 := hVc.cell 3
  have p4 := hVc.cell 4
  simp at p0 p1 p2 p3 p4
  have hVi := hVc.inside
  clear hVc
  have hC := Detour_any vW _ _ lW tW (by decide) lW_nums 1 1 2 Wb hK0.out.row hK0.out.rqs
  rw [wkD0, wkW0] at hC
  go_wp2_with fail
  refine hC.mono ?_
  clear hC p0 p1 p2 p3 p4 hVi
  rintro e x1 ⟨rfl, hb⟩
  have hK1 := Lib.hid (hK0.out.on hb)
  have hM1 := Lib.hid (marked hM0.out hb)
  have hN1 := Lib.hid (marked hN0.out hb)
  have hA1 := Lib.hid (hA0.out.keep hb hA0.out.inside)
  clear hb hK0 hM0 hN0 hA0
  have hVc := hK1.out.v
  have p0 := hVc.cell 0
  have p1 := hVc.cell 1
  have p2 := hVc.cell 2
  have p3 := hVc.cell 3
  have p4 := hVc.cell 4
  simp at p0 p1 p2 p3 p4
  have hVi := hVc.inside
  clear hVc
  have hC := Detour_any vW _ _ lW tW (by decide) lW_nums 1 0 0 x1 hK1.out.row hK1.out.rqs
  rw [wkD1, wkW1] at hC
  go_wp2_with fail
  refine hC.mono ?_
  clear hC p0 p1 p2 p3 p4 hVi
  rintro e x2 ⟨rfl, hb⟩
  have hK2 := Lib.hid (hK1.out.on hb)
  have hM2 := Lib.hid (marked hM1.out hb)
  have hN2 := Lib.hid (marked hN1.out hb)
  have hA2 := Lib.hid (hA1.out.keep hb hA1.out.inside)
  clear hb hK1 hM1 hN1 hA1
  have a0 := hA2.out.cell 0
  simp at a0
  have hai := hA2.out.inside
  clear hA2
  have hVc := hK2.out.v
  have p0 := hVc.cell 0
  have p1 := hVc.cell 1
  have p2 := hVc.cell 2
  have p3 := hVc.cell 3
  have p4 := hVc.cell 4
  simp at p0 p1 p2 p3 p4
  have hVi := hVc.inside
  clear hVc
  have hC := costs_yes vW _ _ lW tW (by decide) lW_nums 1 1 1 6 wkV0 wkE0 x2 hK2.out.sg hK2.out.row hK2.out.rqs
  go_wp2_with fail
  refine hC.mono ?_
  clear hC p0 p1 p2 p3 p4 hVi
  rintro e x3 ⟨rfl, hb⟩
  have hK3 := Lib.hid (hK2.out.on hb)
  have hM3 := Lib.hid (marked hM2.out hb)
  have hN3 := Lib.hid (marked hN2.out hb)
  clear hb hK2 hM2 hN2
  clear a0 hai
  have hVc := hK3.out.v
  have p0 := hVc.cell 0
  have p1 := hVc.cell 1
  have p2 := hVc.cell 2
  have p3 := hVc.cell 3
  have p4 := hVc.cell 4
  simp at p0 p1 p2 p3 p4
  have hVi := hVc.inside
  clear hVc
  have hC := costs_yes vW _ _ lW tW (by decide) lW_nums 1 1 2 12 wkV1 wkE1 x3 hK3.out.sg hK3.out.row hK3.out.rqs
  go_wp2_with fail
  refine hC.mono ?_
  clear hC p0 p1 p2 p3 p4 hVi
  rintro e x4 ⟨rfl, hb⟩
  have hK4 := Lib.hid (hK3.out.on hb)
  have hM4 := Lib.hid (marked hM3.out hb)
  have hN4 := Lib.hid (marked hN3.out hb)
  clear hb hK3 hM3 hN3
  have hVc := hK4.out.v
  have p0 := hVc.cell 0
  have p1 := hVc.cell 1
  have p2 := hVc.cell 2
  have p3 := hVc.cell 3
  have p4 := hVc.cell 4
  simp at p0 p1 p2 p3 p4
  have hVi := hVc.inside
  clear hVc
  have hC := costs_yes vW _ _ lW tW (by decide) lW_nums 1 2 2 14 wkV2 wkE2 x4 hK4.out.sg hK4.out.row hK4.out.rqs
  go_wp2_with fail
  refine hC.mono ?_
  clear hC p0 p1 p2 p3 p4 hVi
  rintro e x5 ⟨rfl, hb⟩
  have hK5 := Lib.hid (hK4.out.on hb)
  have hM5 := Lib.hid (marked hM4.out hb)
  have hN5 := Lib.hid (marked hN4.out hb)
  clear hb hK4 hM4 hN4
  have hVc := hK5.out.v
  have p0 := hVc.cell 0
  have p1 := hVc.cell 1
  have p2 := hVc.cell 2
  have p3 := hVc.cell 3
  have p4 := hVc.cell 4
  simp at p0 p1 p2 p3 p4
  have hVi := hVc.inside
  clear hVc
  have hC := costs_yes vW _ _ lW tW (by decide) lW_nums 1 0 0 14 wkV3 wkE3 x5 hK5.out.sg hK5.out.row hK5.out.rqs
  go_wp2_with fail
  refine hC.mono ?_
  clear hC p0 p1 p2 p3 p4 hVi
  rintro e x6 ⟨rfl, hb⟩
  have hK6 := Lib.hid (hK5.out.on hb)
  have hM6 := Lib.hid (marked hM5.out hb)
  have hN6 := Lib.hid (marked hN5.out hb)
  clear hb hK5 hM5 hN5
  have hVc := hK6.out.s
  have p0 := hVc.cell 0
  have p1 := hVc.cell 1
  have p2 := hVc.cell 2
  have p3 := hVc.cell 3
  have p4 := hVc.cell 4
  simp at p0 p1 p2 p3 p4
  have hVi := hVc.inside
  clear hVc
  have hC := not_yes vS _ _ lW tW (by decide) lW_nums 1 1 1 10 wkV4 wkE4 x6 hK6.out.sg hK6.out.row hK6.out.rqs
  go_wp2_with fail
  refine hC.mono ?_
  clear hC p0 p1 p2 p3 p4 hVi
  rintro e x7 ⟨rfl, hb⟩
  have hK7 := Lib.hid (hK6.out.on hb)
  have hM7 := Lib.hid (marked hM6.out hb)
  have hN7 := Lib.hid (marked hN6.out hb)
  clear hb hK6 hM6 hN6
  have hVc := hK7.out.s
  have p0 := hVc.cell 0
  have p1 := hVc.cell 1
  have p2 := hVc.cell 2
  have p3 := hVc.cell 3
  have p4 := hVc.cell 4
  simp at p0 p1 p2 p3 p4
  have hVi := hVc.inside
  clear hVc
  have hC := costs_yes vS _ _ lW tW (by decide) lW_nums 1 2 2 14 wkV5 wkE5 x7 hK7.out.sg hK7.out.row hK7.out.rqs
  go_wp2_with fail
  refine hC.mono ?_
  clear hC p0 p1 p2 p3 p4 hVi
  rintro e x8 ⟨rfl, hb⟩
  have hK8 := Lib.hid (hK7.out.on hb)
  have hM8 := Lib.hid (marked hM7.out hb)
  have hN8 := Lib.hid (marked hN7.out hb)
  clear hb hK7 hM7 hN7
  have hVc := hK8.out.h
  have p0 := hVc.cell 0
  have p1 := hVc.cell 1
  have p2 := hVc.cell 2
  have p3 := hVc.cell 3
  have p4 := hVc.cell 4
  simp at p0 p1 p2 p3 p4
  have hVi := hVc.inside
  clear hVc
  have hC := not_yes vH _ _ lW tW (by decide) lW_nums 1 2 2 9 wkV6 wkE6 x8 hK8.out.sg hK8.out.row hK8.out.rqs
  go_wp2_with fail
  refine hC.mono ?_
  clear hC p0 p1 p2 p3 p4 hVi
  rintro e x9 ⟨rfl, hb⟩
  have hK9 := Lib.hid (hK8.out.on hb)
  have hM9 := Lib.hid (marked hM8.out hb)
  have hN9 := Lib.hid (marked hN8.out hb)
  clear hb hK8 hM8 hN8
  have hVc := hK9.out.v
  have p0 := hVc.cell 0
  have p1 := hVc.cell 1
  have p2 := hVc.cell 2
  have p3 := hVc.cell 3
  have p4 := hVc.cell 4
  simp at p0 p1 p2 p3 p4
  have hVi := hVc.inside
  clear hVc
  have hC := not_yes vW _ _ lW tW (by decide) lW_nums 0 0 0 8 wkV7 wkE7 x9 hK9.out.sg hK9.out.row hK9.out.rqs
  go_wp2_with fail
  refine hC.mono ?_
  clear hC p0 p1 p2 p3 p4 hVi
  rintro e x10 ⟨rfl, hb⟩
  have hK10 := Lib.hid (hK9.out.on hb)
  have hM10 := Lib.hid (marked hM9.out hb)
  have hN10 := Lib.hid (marked hN9.out hb)
  clear hb hK9 hM9 hN9
  have hVc := hK10.out.v
  have p0 := hVc.cell 0
  have p1 := hVc.cell 1
  have p2 := hVc.cell 2
  have p3 := hVc.cell 3
  have p4 := hVc.cell 4
  simp at p0 p1 p2 p3 p4
  have hVi := hVc.inside
  clear hVc
  have hC := not_yes vW _ _ lW tW (by decide) lW_nums 2 0 0 8 wkV8 wkE8 x10 hK10.out.sg hK10.out.row hK10.out.rqs
  go_wp2_with fail
  refine hC.mono ?_
  clear hC p0 p1 p2 p3 p4 hVi
  rintro e x11 ⟨rfl, hb⟩
  have hK11 := Lib.hid (hK10.out.on hb)
  have hM11 := Lib.hid (marked hM10.out hb)
  have hN11 := Lib.hid (marked hN10.out hb)
  clear hb hK10 hM10 hN10
  have hVc := hK11.out.v
  have p0 := hVc.cell 0
  have p1 := hVc.cell 1
  have p2 := hVc.cell 2
  have p3 := hVc.cell 3
  have p4 := hVc.cell 4
  simp at p0 p1 p2 p3 p4
  have hVi := hVc.inside
  clear hVc
  have hC := not_yes vW _ _ lW tW (by decide) lW_nums 1 2 1 8 wkV9 wkE9 x11 hK11.out.sg hK11.out.row hK11.out.rqs
  go_wp2_with fail
  refine hC.mono ?_
  clear hC p0 p1 p2 p3 p4 hVi
  rintro e x12 ⟨rfl, hb⟩
  have hK12 := Lib.hid (hK11.out.on hb)
  have hM12 := Lib.hid (marked hM11.out hb)
  have hN12 := Lib.hid (marked hN11.out hb)
  clear hb hK11 hM11 hN11
  have hVc := hK12.out.v
  have p0 := hVc.cell 0
  have p1 := hVc.cell 1
  have p2 := hVc.cell 2
  have p3 := hVc.cell 3
  have p4 := hVc.cell 4
  simp at p0 p1 p2 p3 p4
  have hVi := hVc.inside
  clear hVc
  have hC := costs_yes vW _ _ [] tW (by decide) nil_nums 1 0 0 24 wkV10 wkE10 x12 hK12.out.sg (RowB.nil _ _ _) hK12.out.rqs
  go_wp2_with fail
  refine hC.mono ?_
  clear hC p0 p1 p2 p3 p4 hVi
  rintro e x13 ⟨rfl, hb⟩
  have hK13 := Lib.hid (hK12.out.on hb)
  have hM13 := Lib.hid (marked hM12.out hb)
  have hN13 := Lib.hid (marked hN12.out hb)
  clear hb hK12 hM12 hN12
  have hr := hK13.out.r
  have r0 := hr.cell 0
  have rf := hr.free 0
  simp at r0
  have hri := hr.inside
  have hr' := Lib.hid hr
  have hqb : Hid (Below w.heap.size w (x13.setCell ⟨q, 0, none⟩ (.bool true))) := Lib.hid (hK13.out.b.setCell (by show w.heap.size ≤ q; rw [hq'.out]; exact Nat.le_refl _) _)
  have hqk : q < k + 6 := by omega
  clear hr
  go_wp2
  obtain ⟨y, hy⟩ : ∃ y, x13.setCell ⟨q, 0, none⟩ (.bool true) = y := ⟨_, rfl⟩
  have hRy : At y q 4 #[.bool true] := by rw [← hy]; simpa using hr'.out.put 0 (.bool true)
  have hMy : y.heap[k + 6]? = some (.deferred (some [])) := by rw [← hy]; exact (Below.heap_setCell _ _ _ _ (by show k + 6 ≠ q; omega)).trans hM13.out
  have hNy : y.heap[m + 1]? = some (.deferred (some [])) := by rw [← hy]; exact (Below.heap_setCell _ _ _ _ (by show m + 1 ≠ q; omega)).trans hN13.out
  have hBy : Below w.heap.size w y := by rw [← hy]; exact hqb.out
  rw [hy]
  try simp only [hsa'.out, hs9'.out]
  refine ⟨by simp, .inl ⟨_, _, rfl, run_takeDeferred hNy, ?_⟩⟩
  have hM2 : (y.putObj (m + 1) (.deferred none)).heap[k + 6]? = some (.deferred (some [])) := (World.putObj_heap_other (by omega)).trans hMy
  have hR2 : At (y.putObj (m + 1) (.deferred none)) q 4 #[.bool true] := (World.putObj_heap_other (by omega)).trans hRy
  have hB2 := putBelow (o := .deferred none) (d := m + 1) hBy (by have := hq'.out; omega) hBy.size
  refine ⟨by simp, .inl ⟨_, _, rfl, run_takeDeferred hM2, ?_⟩⟩
  have hR3 : At ((y.putObj (m + 1) (.deferred none)).putObj (k + 6) (.deferred none)) q 4 #[.bool true] := (World.putObj_heap_other (by omega)).trans hR2
  have hB3 := putBelow (o := .deferred none) (d := k + 6) hB2 (by have := hq'.out; omega) hB2.size
  have hc := hR3.cell 0
  simp at hc
  exact ⟨.bool true, by simp [results, Tryd.results12, go_sem, hc], rfl, hB3⟩

end Go.Proofs.YthjdacbgcpldjaaDoor.Ins

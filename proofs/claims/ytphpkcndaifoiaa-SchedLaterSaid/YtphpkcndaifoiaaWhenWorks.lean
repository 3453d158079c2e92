/-
  The chapter's examples: chapter, late, works.
-/
import Derived.Test.YtphpkcndaifoiaaWhenSpent
namespace Go.Proofs.Ytphpkcndaifoiaa.When
open Go.RowKit Go.Proofs.Ytphpkcndaifoiaa.Mem Go.Proofs.Ytphpkcndaifoiaa.Route
set_option linter.unusedVariables false

def vC : Vh := ⟨0, 0, 1, 10, 100⟩
def lC : List (Int × Int) := [(0, 0), (0, 1)]
def tC : List Rq := [⟨3, 0, 3, 4, 20, 30, 0, 60, 1, 2⟩]
theorem lC_nums : Nums lC := by
  intro s hs
  simp only [lC, List.mem_cons, List.not_mem_nil, or_false] at hs
  rcases hs with rfl | rfl <;> exact ⟨⟨by decide, by decide⟩, by decide, by decide⟩
theorem Row.laid2 {W : World} {g : Nat} {s1 s2 s3 s4 : Int} (h : At W g 45 #[.int .i64 s1, .int .i64 s2, .int .i64 s3, .int .i64 s4]) : Row W.heap.size W (.slice (some ⟨g, 0, none⟩) 2 2) [(s1, s2), (s3, s4)] :=
  RowB.of_at (m := 2) (rows := [stV (s1, s2), stV (s3, s4)]) h h.inside (fun r hr => by simp [stV] at hr; rcases hr with rfl | rfl <;> rfl) (fun i u hu => by simpa [stV] using hu) (Nat.le_refl _) (by decide)
theorem Rqs.laid1 {W : World} {g : Nat} {q : Rq} (h : At W g 56 #[.int .i64 q.fx, .int .i64 q.fy, .int .i64 q.tx, .int .i64 q.ty, .int .i64 q.pe, .int .i64 q.pl, .int .i64 q.de, .int .i64 q.dl, .int .i64 q.ld, .int .i64 q.sv]) : Rqs W.heap.size W (.slice (some ⟨g, 0, none⟩) 1 1) [q] :=
  RowB.of_at (m := 10) (rows := [rqV q]) h h.inside (fun r hr => by simp at hr; subst hr; rfl) (fun i u hu => by simpa [rqV] using hu) (Nat.le_refl _) (by decide)
theorem res_parts {fn : Func} {p c d : Tmp} (h : fn.results = #[.cell p 30, .tmp c, .tmp d]) {tmps : Array Value} {w : World} {g : Nat} {x0 x1 x2 x3 x4 b b2 : Value} (hp : tmps.getD p undef = .pointer (some ⟨g, 0, none⟩)) (hc : tmps.getD c undef = b) (hd : tmps.getD d undef = b2)
    (c0 : w.cell? ⟨g, 0, none⟩ = some x0) (c1 : w.cell? ⟨g, 1, none⟩ = some x1) (c2 : w.cell? ⟨g, 2, none⟩ = some x2) (c3 : w.cell? ⟨g, 3, none⟩ = some x3) (c4 : w.cell? ⟨g, 4, none⟩ = some x4) : (results fn tmps).run Try.prog w = .ok (.tuple #[.agg #[x0, x1, x2, x3, x4], b, b2]) w := by
  have hp' : tmps[p]?.getD undef = .pointer (some ⟨g, 0, none⟩) := by simpa using hp
  have hc' : tmps[c]?.getD undef = b := by simpa using hc
  have hd' : tmps[d]?.getD undef = b2 := by simpa using hd
  simp only [results, h]
  go_simp

set_option maxRecDepth 100000 in
set_option maxHeartbeats 1000000 in
theorem chapter_any (w : World) : Calls Try.prog 19 #[] w fun e w' => (∃ ul ut, e = .returned (.tuple #[.agg #[.int .i64 vC.hx, .int .i64 vC.hy, .int .i64 vC.cp, .int .i64 vC.st, .int .i64 vC.en], ul, ut]) ∧ Row w'.heap.size w' ul lC ∧ Rqs w'.heap.size w' ut tC) ∧ Below w.heap.size w w' := by
  go_enter Try.func19, Try.ntmps19
  go_wp2_with fail
  have hA0 : At ((w.alloc (.cells #[.int .i64 0, .int .i64 0, .int .i64 0, .int .i64 0, .int .i64 0] 30)).alloc (.cells #[.int .i64 3, .int .i64 0, .int .i64 3, .int .i64 4, .int .i64 20, .int .i64 30, .int .i64 0, .int .i64 60, .int .i64 1, .int .i64 2] 56)) w.heap.size 30 #[.int .i64 0, .int .i64 0, .int .i64 0, .int .i64 0, .int .i64 0] := (At.new _ _ _).alloc _
  have hQ0 : At ((w.alloc (.cells #[.int .i64 0, .int .i64 0, .int .i64 0, .int .i64 0, .int .i64 0] 30)).alloc (.cells #[.int .i64 3, .int .i64 0, .int .i64 3, .int .i64 4, .int .i64 20, .int .i64 30, .int .i64 0, .int .i64 60, .int .i64 1, .int .i64 2] 56)) (w.heap.size + 1) 56 #[.int .i64 3, .int .i64 0, .int .i64 3, .int .i64 4, .int .i64 20, .int .i64 30, .int .i64 0, .int .i64 60, .int .i64 1, .int .i64 2] := At.new_ _ _ _ (by simp)
  have hB0 : Below w.heap.size w ((w.alloc (.cells #[.int .i64 0, .int .i64 0, .int .i64 0, .int .i64 0, .int .i64 0] 30)).alloc (.cells #[.int .i64 3, .int .i64 0, .int .i64 3, .int .i64 4, .int .i64 20, .int .i64 30, .int .i64 0, .int .i64 60, .int .i64 1, .int .i64 2] 56)) := ((Below.refl _ _).alloc (Nat.le_refl _) _).alloc (by simp) _
  generalize (w.alloc (.cells #[.int .i64 0, .int .i64 0, .int .i64 0, .int .i64 0, .int .i64 0] 30)).alloc (.cells #[.int .i64 3, .int .i64 0, .int .i64 3, .int .i64 4, .int .i64 20, .int .i64 30, .int .i64 0, .int .i64 60, .int .i64 1, .int .i64 2] 56) = w1 at *
  have q0 := hQ0.cell 0
  have q1 := hQ0.cell 1
  have q2 := hQ0.cell 2
  have q3 := hQ0.cell 3
  have q4 := hQ0.cell 4
  have q5 := hQ0.cell 5
  have q6 := hQ0.cell 6
  have q7 := hQ0.cell 7
  have q8 := hQ0.cell 8
  have q9 := hQ0.cell 9
  have a0 := hA0.cell 0
  have a1 := hA0.cell 1
  have a2 := hA0.cell 2
  have a3 := hA0.cell 3
  have a4 := hA0.cell 4
  have af := hA0.free
  simp at q0 q1 q2 q3 q4 q5 q6 q7 q8 q9 a0 a1 a2 a3 a4
  have hn1 : w.heap.size < w1.heap.size := hA0.inside
  have hn2 : w.heap.size + 1 < w1.heap.size := hQ0.inside
  have hB0' := Lib.hid hB0
  clear hA0 hQ0 hB0
  go_region
  all_goals
    go_wp2
    refine bodyPost_ret (res_parts rfl rfl rfl rfl (x0 := .int .i64 0) (x1 := .int .i64 0) (x2 := .int .i64 1) (x3 := .int .i64 10) (x4 := .int .i64 100) (by go_simp) (by go_simp) (by go_simp) (by go_simp) (by go_simp)) rfl ?_
    refine ⟨⟨_, _, rfl, Row.laid2 ?_, Rqs.laid1 ?_⟩, ?_⟩
    · repeat (first | with_reducible exact At.new_ _ _ _ (by simp) | with_reducible refine At.far ?_ (by simp <;> omega) _ _ | with_reducible refine At.drew ?_ | with_reducible refine At.alloc ?_ _)
    · show At _ _ _ #[.int .i64 3, .int .i64 0, .int .i64 3, .int .i64 4, .int .i64 20, .int .i64 30, .int .i64 0, .int .i64 60, .int .i64 1, .int .i64 2]
      repeat (first | with_reducible exact At.new_ _ _ _ (by simp) | with_reducible refine At.far ?_ (by simp <;> omega) _ _ | with_reducible refine At.drew ?_ | with_reducible refine At.alloc ?_ _)
    · repeat (first | with_reducible refine Below.drew ?_ | with_reducible refine Below.setCell ?_ (by simp) _ | with_reducible refine Below.alloc ?_ (by simp <;> omega) _ | with_reducible exact hB0'.out)

theorem late_yes (v : Vh) (vl vt : Value) (l : List (Int × Int)) (t : List Rq) (hl : l.length ≤ 1000000) (hnum : Nums l) (he : errT v l t = 9) (w : World) (hL : Row w.heap.size w vl l) (hT : Rqs w.heap.size w vt t) :
    Calls Try.prog 31 #[.agg #[.int .i64 v.hx, .int .i64 v.hy, .int .i64 v.cp, .int .i64 v.st, .int .i64 v.en], vl, vt] w fun e w' => e = .returned (.bool true) ∧ Below w.heap.size w w' := by
  have hb0 : Below w.heap.size w (w.alloc (.cells #[.int .i64 v.hx, .int .i64 v.hy, .int .i64 v.cp, .int .i64 v.st, .int .i64 v.en] 30)) := (Below.refl _ _).alloc (Nat.le_refl _) _
  have hc := Times_any v vl vt l t hl hnum _ (hL.on hb0) (hT.on hb0)
  rw [he, homeT_no (by rw [he]; decide), timesL_no (by rw [he]; decide)] at hc
  obtain ⟨xl, Nl, capl, rfl, hNl, hl0, hlc1, hlc2⟩ := hL.opened
  obtain ⟨xt, Nt, capt, rfl, hNt0, htc1, htc2, ht0⟩ := hT.opened
  clear hL hT hNt0 ht0 hl hnum he
  go_enter Try.func31, Try.ntmps31
  go_wp2_with fail
  refine hc.mono ?_
  clear hc
  rintro e w1 ⟨⟨u, rfl, hu⟩, hb1⟩
  have hB := hb0.trans (hb1.mono hb0.size)
  obtain ⟨x, N, cap, rfl, hN, hc1, hc2, hx⟩ := hu.opened
  obtain rfl : N = 0 := by simpa using hN.symm
  clear hu hN hx hb0 hb1
  go_wp2
  go_ret
  exact ⟨rfl, hB⟩

end Go.Proofs.Ytphpkcndaifoiaa.When

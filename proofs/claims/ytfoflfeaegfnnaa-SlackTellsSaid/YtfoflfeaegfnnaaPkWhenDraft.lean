import Derived.Test.YtfoflfeaegfnnaaPkPlaceDist
import Derived.Test.YtfoflfeaegfnnaaPkSched
import Derived.Deep.CutRange

/-
  Contracts of a draft's next, Place, Request and Vehicle: what they give lies in its range, and only the draft turns.
-/
namespace Go.Proofs.Ytfoflfeaegfnnaa.When
open Go.RowKit Go.Sort Go.Proofs.Ytfoflfeaegfnnaa.Mem Go.Proofs.Ytfoflfeaegfnnaa.Route
set_option linter.unusedVariables false

def byV (b : Int) : List Value := [.int .u8 b]

theorem put_grown (w : World) (g i : Nat) (v : Value) : w.grownBy (w.setCell ⟨g, i, none⟩ v) (some g) :=
  ⟨rfl, rfl, rfl, by simp [World.setCell], fun k _ hn => Below.heap_setCell w ⟨g, i, none⟩ v k (fun e => hn (by rw [e]))⟩
theorem grown_far {w v : World} {g : Nat} (h : w.grownBy v (some g)) {q : Nat} (hq : w.heap.size ≤ q) (i : Nat) (x : Value) : w.grownBy (v.setCell ⟨q, i, none⟩ x) (some g) :=
  ⟨h.os, h.tape, h.output, by simpa using h.size, fun j hj hne => (Below.heap_setCell _ _ _ _ (fun e => by have : j = q := e; omega)).trans (h.block j hj hne)⟩


theorem res_dp {fn : Func} {p : Tmp} (h : fn.results = #[.cell p 29]) {tmps : Array Value} {w : World} {g : Nat} {x0 x1 : Value} (hp : tmps.getD p undef = .pointer (some ⟨g, 0, none⟩))
    (hA : At w g 29 #[x0, x1]) : (results fn tmps).run Try.prog w = .ok (.agg #[x0, x1]) w := by
  have hp' : tmps[p]?.getD undef = .pointer (some ⟨g, 0, none⟩) := by simpa using hp
  have c0 := hA.cell 0
  have c1 := hA.cell 1
  simp at c0 c1
  simp only [results, h]
  go_simp
theorem res_rq {fn : Func} {p : Tmp} (h : fn.results = #[.cell p 41]) {tmps : Array Value} {w : World} {g : Nat} {x0 x1 x2 x3 x4 x5 x6 x7 x8 x9 : Value} (hp : tmps.getD p undef = .pointer (some ⟨g, 0, none⟩))
    (hA : At w g 41 #[x0, x1, x2, x3, x4, x5, x6, x7, x8, x9]) : (results fn tmps).run Try.prog w = .ok (.agg #[x0, x1, x2, x3, x4, x5, x6, x7, x8, x9]) w := by
  have hp' : tmps[p]?.getD undef = .pointer (some ⟨g, 0, none⟩) := by simpa using hp
  have c0 := hA.cell 0
  have c1 := hA.cell 1
  have c2 := hA.cell 2
  have c3 := hA.cell 3
  have c4 := hA.cell 4
  have c5 := hA.cell 5
  have c6 := hA.cell 6
  have c7 := hA.cell 7
  have c8 := hA.cell 8
  have c9 := hA.cell 9
  simp at c0 c1 c2 c3 c4 c5 c6 c7 c8 c9
  simp only [results, h]
  go_simp
theorem res_vh {fn : Func} {p : Tmp} (h : fn.results = #[.cell p 31]) {tmps : Array Value} {w : World} {g : Nat} {x0 x1 x2 x3 x4 : Value} (hp : tmps.getD p undef = .pointer (some ⟨g, 0, none⟩))
    (hA : At w g 31 #[x0, x1, x2, x3, x4]) : (results fn tmps).run Try.prog w = .ok (.agg #[x0, x1, x2, x3, x4]) w := by
  have hp' : tmps[p]?.getD undef = .pointer (some ⟨g, 0, none⟩) := by simpa using hp
  have c0 := hA.cell 0
  have c1 := hA.cell 1
  have c2 := hA.cell 2
  have c3 := hA.cell 3
  have c4 := hA.cell 4
  simp at c0 c1 c2 c3 c4
  simp only [results, h]
  go_simp


end Go.Proofs.Ytfoflfeaegfnnaa.When

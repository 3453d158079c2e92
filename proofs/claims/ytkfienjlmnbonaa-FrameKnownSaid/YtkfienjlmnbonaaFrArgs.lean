/-
  Frames' kinds and bodies as an argument, opened.
-/
import Derived.Test.YtkfienjlmnbonaaOctArgs
import Derived.Test.YtkfienjlmnbonaaFrSplitsL
namespace Go.Proofs.Ytkfienjlmnbonaa.Fr
open Go.ChangeShapes Go.WideShapes Go.ChangeAt Go.RowKit Go.Proofs.Ytkfienjlmnbonaa.Mem Go.Proofs.Ytkfienjlmnbonaa.Route Go.Proofs.Ytkfienjlmnbonaa.Oct
set_option linter.unusedVariables false
section
variable {H : Type} {enc : TypeId × Value → H} {w : World} {base : Nat} {spare : Nat → Bool} {held : Bool}

theorem cellsStr2 : Try.prog.cellsOf 9 = 1 := by kernel_rfl
theorem cellsPt : Try.prog.cellsOf 39 = 2 := by kernel_rfl
set_option maxRecDepth 100000 in
/-- Parts, in a row. -/
theorem openPts {r : Reach} {b0 : Nat} {v : Value} {d : DataW H} {p : List MemPlace} (hv : Value.okWide Try.prog w r b0 37 v) (h : DataW.Trod enc Try.prog w base spare held 37 v d p) :
    ∃ (x : Option Addr) (N cap : Nat) (ps : List Pt), v = .slice x N cap ∧ RowB w.heap.size w (.slice x N cap) 2 (ps.map ptV) ∧ ∀ y ∈ ps, y.ok := by
  obtain ⟨a, len, cap, rfl⟩ := okWide_slice Try.underlying37 hv
  obtain ⟨fuel, hf⟩ := h
  obtain ⟨bs, hb1, hb2⟩ := rows_of (f := ptV) (g := fun x => x.ok) Try.underlying37 cellsPt (by decide) (fun n cs y hy hl => by
    obtain ⟨a, b, rfl⟩ := list2T hl
    obtain ⟨_, _, h0⟩ := fieldS (i := 0) Try.underlying39 hy rfl
    obtain ⟨_, _, h1⟩ := fieldS (i := 1) Try.underlying39 hy rfl
    simp [cellsU8, cellsStr2] at h0 h1
    obtain ⟨n0, e0, _, w0⟩ := DataW.trod_int Try.underlying5 h0
    obtain ⟨s1, e1, _, _⟩ := DataW.trod_string Try.underlying9 h1
    simp at e0 e1
    subst e0 e1
    obtain ⟨m0, rfl, hm0⟩ := u8_nat w0
    exact ⟨⟨m0, s1.data.toList⟩, by simp [ptV], hm0⟩) hf
  exact ⟨a, len, cap, bs, rfl, hb1, hb2⟩
end

end Go.Proofs.Ytkfienjlmnbonaa.Fr

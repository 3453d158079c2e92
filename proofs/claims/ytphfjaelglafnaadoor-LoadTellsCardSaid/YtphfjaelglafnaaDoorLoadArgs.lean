/-
  Arguments of the laws, opened: small numbers in rows.
-/
import Derived.Test.YtphfjaelglafnaaDoorLoadLaw
import Derived.Test.YtphfjaelglafnaaDoorRouteOpen
namespace Go.Proofs.YtphfjaelglafnaaDoor.Load
open Go.ChangeShapes Go.WideShapes Go.ChangeAt Go.RowKit Go.Proofs.YtphfjaelglafnaaDoor.Mem Go.Proofs.YtphfjaelglafnaaDoor.Route
set_option linter.unusedVariables false
set_option maxRecDepth 100000
section
variable {H : Type} {enc : TypeId × Value → H} {w : World} {base : Nat} {spare : Nat → Bool} {held : Bool}
theorem cellsU16 : Tryd.prog.cellsOf 24 = 1 := by kernel_rfl
theorem u16_ends {x : Int} (h : (Lit.int .u16 x).wf = true) : 0 ≤ x ∧ x ≤ 65535 := by
  simp [Lit.wf, IntKind.min, IntKind.max, IntKind.bits, IntKind.signed] at h
  omega
theorem u16_of {fuel : Nat} {v : Value} {x : DataW H × List MemPlace} (h : DataW.trod enc Tryd.prog w base spare held fuel 24 [v] = some x) : ∃ n : Int, v = .int .u16 n ∧ 0 ≤ n ∧ n < 65536 := by
  obtain ⟨n, hn, _, hw⟩ := DataW.trod_int Tryd.underlying24 h
  simp at hn
  have := u16_ends hw
  exact ⟨n, hn, by omega, by omega⟩
/-- Numbers of sixteen bits, in a row. -/
theorem rowWords {fuel : Nat} {v : Value} {x : DataW H × List MemPlace} (h : DataW.trod enc Tryd.prog w base spare held fuel 22 [v] = some x) :
    ∃ ns : List Int, RowB w.heap.size w v 1 (ns.map wdV) ∧ ∀ x ∈ ns, 0 ≤ x ∧ x < 65536 :=
  rows_of (f := wdV) (g := fun x => 0 ≤ x ∧ x < 65536) Tryd.underlying22 cellsU16 (by decide) (fun n cs y hy hl => by
    obtain ⟨a, rfl⟩ := list1T hl
    obtain ⟨n, rfl, hn⟩ := u16_of hy
    exact ⟨n, rfl, hn⟩) h
theorem openWords {r : Reach} {b0 : Nat} {v : Value} {d : DataW H} {p : List MemPlace} (hv : Value.okWide Tryd.prog w r b0 22 v) (h : DataW.Trod enc Tryd.prog w base spare held 22 v d p) :
    ∃ ns : List Int, RowB w.heap.size w v 1 (ns.map wdV) ∧ ∀ x ∈ ns, 0 ≤ x ∧ x < 65536 := by
  obtain ⟨a, len, cap, rfl⟩ := okWide_slice Tryd.underlying22 hv
  obtain ⟨fuel, hf⟩ := h
  exact rowWords hf
end
end Go.Proofs.YtphfjaelglafnaaDoor.Load

/-
  Requests and vehicles as arguments, opened: numbers alone.
-/
import Derived.Test.YtcdgfjfomiokmaaClose
import Derived.Test.YtcdgfjfomiokmaaOpen
import Derived.Lib.SmallJoins
namespace Go.Proofs.Ytcdgfjfomiokmaa.Order
open Go.ChangeShapes Go.WideShapes Go.ChangeAt Go.RowKit

section
variable {H : Type} {enc : TypeId × Value → H} {w : World} {base : Nat} {spare : Nat → Bool} {held : Bool}

theorem list2 {α : Type} {cs : List α} (h : cs.length = 2) : ∃ c0 c1, cs = [c0, c1] := by
  match cs, h with
  | [c0, c1], _ => exact ⟨c0, c1, rfl⟩
theorem array5 {α : Type} {cs : Array α} (h : cs.size = 5) : ∃ c0 c1 c2 c3 c4, cs = #[c0, c1, c2, c3, c4] := by
  obtain ⟨l⟩ := cs
  match l, h with
  | [c0, c1, c2, c3, c4], _ => exact ⟨c0, c1, c2, c3, c4, rfl⟩
theorem array10 {α : Type} {cs : Array α} (h : cs.size = 10) : ∃ c0 c1 c2 c3 c4 c5 c6 c7 c8 c9, cs = #[c0, c1, c2, c3, c4, c5, c6, c7, c8, c9] := by
  obtain ⟨l⟩ := cs
  match l, h with
  | [c0, c1, c2, c3, c4, c5, c6, c7, c8, c9], _ => exact ⟨c0, c1, c2, c3, c4, c5, c6, c7, c8, c9, rfl⟩

/-- A field of a struct that is read is read. -/
theorem field_some {P : Program} {t : TypeId} {fs : Array Field} {fuel : Nat} {cs : List Value} {x : DataW H × List MemPlace} (ht : P.underlying t = some (.struct fs)) (h : DataW.trod enc P w base spare held fuel t cs = some x) {i : Nat} {f : Field} (hf : fs[i]? = some f) :
    ∃ n y, DataW.trod enc P w base spare held n f.type ((cs.drop f.offset).take (P.cellsOf f.type)) = some y := by
  obtain ⟨xs, n, _, _, _, hlen, hall⟩ := DataW.trod_struct ht h
  have h1 := hall i f hf
  have hi : i < fs.size := (Array.getElem?_eq_some_iff.1 hf).1
  rw [List.getElem?_eq_getElem (by omega)] at h1
  exact ⟨n, _, h1⟩

/-- A number. -/
def Num (v : Value) : Prop := ∃ x : Int, v = .int .i64 x ∧ (Lit.int .i64 x).wf = true

theorem num_of {fuel : Nat} {v : Value} {x : DataW H × List MemPlace} (h : DataW.trod enc Try.prog w base spare held fuel 3 [v] = some x) : Num v := by
  obtain ⟨x, hx, _, hwx⟩ := DataW.trod_int Try.underlying3 h
  simp at hx
  exact ⟨x, hx, hwx⟩
theorem cellsInt : Try.prog.cellsOf 3 = 1 := by kernel_rfl
theorem cellsPlace : Try.prog.cellsOf 23 = 2 := by kernel_rfl
theorem cellsWindow : Try.prog.cellsOf 25 = 2 := by kernel_rfl

theorem place_of {fuel : Nat} {u v : Value} {x : DataW H × List MemPlace} (h : DataW.trod enc Try.prog w base spare held fuel 23 [u, v] = some x) : Num u ∧ Num v := by
  obtain ⟨_, _, h0⟩ := field_some (i := 0) Try.underlying23 h rfl
  obtain ⟨_, _, h1⟩ := field_some (i := 1) Try.underlying23 h rfl
  exact ⟨num_of (by simpa [cellsInt] using h0), num_of (by simpa [cellsInt] using h1)⟩
theorem window_of {fuel : Nat} {u v : Value} {x : DataW H × List MemPlace} (h : DataW.trod enc Try.prog w base spare held fuel 25 [u, v] = some x) : Num u ∧ Num v := by
  obtain ⟨_, _, h0⟩ := field_some (i := 0) Try.underlying25 h rfl
  obtain ⟨_, _, h1⟩ := field_some (i := 1) Try.underlying25 h rfl
  exact ⟨num_of (by simpa [cellsInt] using h0), num_of (by simpa [cellsInt] using h1)⟩

theorem openRequest {r : Reach} {b0 : Nat} {v : Value} {d : DataW H} {p : List MemPlace} (hv : Value.okWide Try.prog w r b0 27 v) (h : DataW.Trod enc Try.prog w base spare held 27 v d p) :
    ∃ fx fy tx ty pe pl de dl ld sv : Int, v = .agg #[.int .i64 fx, .int .i64 fy, .int .i64 tx, .int .i64 ty, .int .i64 pe, .int .i64 pl, .int .i64 de, .int .i64 dl, .int .i64 ld, .int .i64 sv] ∧ (Lit.int .i64 sv).wf = true := by
  obtain ⟨cs, rfl, hsz⟩ := okWide_struct Try.underlying27 hv
  obtain ⟨c0, c1, c2, c3, c4, c5, c6, c7, c8, c9, rfl⟩ := array10 (hsz.trans (by kernel_rfl))
  obtain ⟨fuel, hf⟩ := h
  obtain ⟨_, _, h0⟩ := field_some (i := 0) Try.underlying27 hf rfl
  obtain ⟨_, _, h1⟩ := field_some (i := 1) Try.underlying27 hf rfl
  obtain ⟨_, _, h2⟩ := field_some (i := 2) Try.underlying27 hf rfl
  obtain ⟨_, _, h3⟩ := field_some (i := 3) Try.underlying27 hf rfl
  obtain ⟨_, _, h4⟩ := field_some (i := 4) Try.underlying27 hf rfl
  obtain ⟨_, _, h5⟩ := field_some (i := 5) Try.underlying27 hf rfl
  simp [Value.cells, cellsInt, cellsPlace, cellsWindow] at h0 h1 h2 h3 h4 h5
  obtain ⟨⟨fx, rfl, _⟩, ⟨fy, rfl, _⟩⟩ := place_of h0
  obtain ⟨⟨tx, rfl, _⟩, ⟨ty, rfl, _⟩⟩ := place_of h1
  obtain ⟨⟨pe, rfl, _⟩, ⟨pl, rfl, _⟩⟩ := window_of h2
  obtain ⟨⟨de, rfl, _⟩, ⟨dl, rfl, _⟩⟩ := window_of h3
  obtain ⟨ld, rfl, _⟩ := num_of h4
  obtain ⟨sv, rfl, hw⟩ := num_of h5
  exact ⟨fx, fy, tx, ty, pe, pl, de, dl, ld, sv, rfl, hw⟩

theorem openVehicle {r : Reach} {b0 : Nat} {v : Value} {d : DataW H} {p : List MemPlace} (hv : Value.okWide Try.prog w r b0 29 v) (h : DataW.Trod enc Try.prog w base spare held 29 v d p) :
    ∃ hx hy cp st en : Int, v = .agg #[.int .i64 hx, .int .i64 hy, .int .i64 cp, .int .i64 st, .int .i64 en] ∧ (Lit.int .i64 en).wf = true := by
  obtain ⟨cs, rfl, hsz⟩ := okWide_struct Try.underlying29 hv
  obtain ⟨c0, c1, c2, c3, c4, rfl⟩ := array5 (hsz.trans (by kernel_rfl))
  obtain ⟨fuel, hf⟩ := h
  obtain ⟨_, _, h0⟩ := field_some (i := 0) Try.underlying29 hf rfl
  obtain ⟨_, _, h1⟩ := field_some (i := 1) Try.underlying29 hf rfl
  obtain ⟨_, _, h2⟩ := field_some (i := 2) Try.underlying29 hf rfl
  obtain ⟨_, _, h3⟩ := field_some (i := 3) Try.underlying29 hf rfl
  simp [Value.cells, cellsInt, cellsPlace] at h0 h1 h2 h3
  obtain ⟨⟨hx, rfl, _⟩, ⟨hy, rfl, _⟩⟩ := place_of h0
  obtain ⟨cp, rfl, _⟩ := num_of h1
  obtain ⟨st, rfl, _⟩ := num_of h2
  obtain ⟨en, rfl, hw⟩ := num_of h3
  exact ⟨hx, hy, cp, st, en, rfl, hw⟩

end
end Go.Proofs.Ytcdgfjfomiokmaa.Order

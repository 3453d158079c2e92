import Derived.Test.YthjdacbgcpldjaaDoorPkOpen
import Derived.Test.YthjdacbgcpldjaaDoorPkInsCase

/-
  Vehicles and arrays of numbers as arguments; rows cut short.
-/
namespace Go.Proofs.YthjdacbgcpldjaaDoor.Ins
open Go.RowKit Go.ChangeShapes Go.WideShapes Go.ChangeAt Go.Proofs.YthjdacbgcpldjaaDoor.Mem Go.Proofs.YthjdacbgcpldjaaDoor.Route Go.Proofs.YthjdacbgcpldjaaDoor.When
set_option linter.unusedVariables false

theorem RowB.cutB {B : Nat} {W : World} {x : Option Addr} {N cap k m : Nat} {l : List (List Value)} (h : RowB B W (.slice x N cap) m l) (hl : l.length = N) (hk : k ≤ N) : RowB B W (.slice x k cap) m (l.take k) := by
  obtain ⟨x', cap', e, h1, h2, h0, h3⟩ := h
  simp only [Value.slice.injEq] at e
  obtain ⟨rfl, rfl, rfl⟩ := e
  refine ⟨x, cap, by simp; omega, by simp; omega, h2, fun hx => ?_, fun j r hj => ?_⟩
  · have := h0 hx
    simp [this]
  · have hjk : j < k := by
      rcases Nat.lt_or_ge j k with h | h
      · exact h
      · rw [List.getElem?_eq_none (by simp; omega)] at hj; cases hj
    rw [List.getElem?_take_of_lt hjk] at hj
    exact h3 j r hj

theorem Rqs.cutTo {B : Nat} {W : World} {x : Option Addr} {N cap k : Nat} {t : List Rq} (h : Rqs B W (.slice x N cap) t) (hl : t.length = N) (hk : k ≤ N) : Rqs B W (.slice x k cap) (t.take k) := by
  have := RowB.cutB h (by rw [List.length_map]; exact hl) hk
  unfold Rqs
  rw [← List.map_take]  at this
  exact this
section
variable {H : Type} {enc : TypeId × Value → H} {w : World} {base : Nat} {spare : Nat → Bool} {held : Bool}
theorem list5 {α : Type} {cs : Array α} (h : cs.size = 5) : ∃ c0 c1 c2 c3 c4, cs = #[c0, c1, c2, c3, c4] := by
  obtain ⟨l⟩ := cs
  match l, h with
  | [c0, c1, c2, c3, c4], _ => exact ⟨c0, c1, c2, c3, c4, rfl⟩

set_option maxRecDepth 100000 in
theorem openVeh {r : Reach} {b0 : Nat} {v : Value} {d : DataW H} {p : List MemPlace} (hv : Value.okWide Tryd.prog w r b0 28 v) (h : DataW.Trod enc Tryd.prog w base spare held 28 v d p) :
    ∃ x : Vh, v = .agg #[.int .i64 x.hx, .int .i64 x.hy, .int .i64 x.cp, .int .i64 x.st, .int .i64 x.en] := by
  obtain ⟨cs, rfl, hsz⟩ := okWide_struct Tryd.underlying28 hv
  obtain ⟨c0, c1, c2, c3, c4, rfl⟩ := list5 (hsz.trans (by kernel_rfl))
  obtain ⟨fuel, hf⟩ := h
  obtain ⟨_, _, h0⟩ := fieldS (i := 0) Tryd.underlying28 hf rfl
  obtain ⟨_, _, h1⟩ := fieldS (i := 1) Tryd.underlying28 hf rfl
  obtain ⟨_, _, h2⟩ := fieldS (i := 2) Tryd.underlying28 hf rfl
  obtain ⟨_, _, h3⟩ := fieldS (i := 3) Tryd.underlying28 hf rfl
  simp [Value.cells, cellsI, cellsPl] at h0 h1 h2 h3
  obtain ⟨_, _, e0⟩ := fieldS (i := 0) Tryd.underlying26 h0 rfl
  obtain ⟨_, _, e1⟩ := fieldS (i := 1) Tryd.underlying26 h0 rfl
  simp [cellsI] at e0 e1
  obtain ⟨hx, rfl, _⟩ := i64_of e0
  obtain ⟨hy, rfl, _⟩ := i64_of e1
  obtain ⟨cp, rfl, _⟩ := i64_of h1
  obtain ⟨st, rfl, _⟩ := i64_of h2
  obtain ⟨en, rfl, _⟩ := i64_of h3
  exact ⟨⟨hx, hy, cp, st, en⟩, rfl⟩

set_option maxRecDepth 100000 in
theorem openThree {r : Reach} {b0 : Nat} {v : Value} {d : DataW H} {p : List MemPlace} (hv : Value.okWide Tryd.prog w r b0 36 v) (h : DataW.Trod enc Tryd.prog w base spare held 36 v d p) :
    ∃ a b c : Int, v = .agg #[.int .i64 a, .int .i64 b, .int .i64 c] := by
  obtain ⟨xs, hlen, rfl, _⟩ := Close.open_numbers (n := 3) Tryd.underlying36 Tryd.underlying3 (by kernel_rfl) (by kernel_rfl) hv h
  match xs, hlen with
  | [a, b, c], _ => exact ⟨a, b, c, rfl⟩
theorem byte_ends {x : Int} (h : (Lit.int .u8 x).wf = true) : 0 ≤ x ∧ x < 256 := by have := u8_ends h; omega
set_option maxRecDepth 100000 in
theorem openTwo {r : Reach} {b0 : Nat} {v : Value} {d : DataW H} {p : List MemPlace} (hv : Value.okWide Tryd.prog w r b0 43 v) (h : DataW.Trod enc Tryd.prog w base spare held 43 v d p) :
    ∃ a b : Int, v = .agg #[.int .u8 a, .int .u8 b] ∧ (0 ≤ a ∧ a < 256) ∧ (0 ≤ b ∧ b < 256) := by
  obtain ⟨xs, hlen, rfl, hw⟩ := Close.open_numbers (n := 2) Tryd.underlying43 Tryd.underlying5 (by kernel_rfl) (by kernel_rfl) hv h
  match xs, hlen, hw with
  | [a, b], _, hw => exact ⟨a, b, rfl, byte_ends (hw a (by simp)), byte_ends (hw b (by simp))⟩
set_option maxRecDepth 100000 in
theorem openSix {r : Reach} {b0 : Nat} {v : Value} {d : DataW H} {p : List MemPlace} (hv : Value.okWide Tryd.prog w r b0 62 v) (h : DataW.Trod enc Tryd.prog w base spare held 62 v d p) :
    ∃ xs : List Int, xs.length = 6 ∧ v = .agg (xs.map (Value.int .u8)).toArray ∧ ∀ x ∈ xs, 0 ≤ x ∧ x < 256 := by
  obtain ⟨xs, hlen, rfl, hw⟩ := Close.open_numbers (n := 6) Tryd.underlying62 Tryd.underlying5 (by kernel_rfl) (by kernel_rfl) hv h
  exact ⟨xs, hlen, rfl, fun x hx => byte_ends (hw x hx)⟩
end
end Go.Proofs.YthjdacbgcpldjaaDoor.Ins

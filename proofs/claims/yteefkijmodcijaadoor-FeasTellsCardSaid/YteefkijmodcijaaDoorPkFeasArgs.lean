import Derived.Test.YteefkijmodcijaaDoorPkClose

/-
  Vehicles and rows of times as arguments; rows cut short. 
-/
namespace Go.Proofs.YteefkijmodcijaaDoor.Feas
open Go.RowKit Go.ChangeShapes Go.WideShapes Go.ChangeAt Go.Proofs.YteefkijmodcijaaDoor.Mem Go.Proofs.YteefkijmodcijaaDoor.Route Go.Proofs.YteefkijmodcijaaDoor.When
set_option linter.unusedVariables false

theorem RowB.cutB {B : Nat} {W : World} {x : Option Addr} {N cap k m : Nat} {l : List (List Value)} (h : RowB B W (.slice x N cap) m l) (hl : l.length = N) (hk : k ≤ N) : RowB B W (.slice x k cap) m (l.take k) := by
  obtain ⟨x', cap', e, h1, h2, h0, h3⟩ := h
  simp only [Value.slice.injEq] at e
  obtain ⟨rfl, rfl, rfl⟩ := e
  refine ⟨x, cap, by simp; omega, by simp; omega, h2, fun hx => ?_, fun j r hj => ?_⟩
  · have := h0 hx
    simp [this]
  · have hjk : j < k := by
      rcases Nat.lt_or_ge j k with h | h
      · exact h
      · rw [List.getElem?_eq_none (by simp; omega)] at hj; cases hj
    rw [List.getElem?_take_of_lt hjk] at hj
    exact h3 j r hj

theorem Rqs.cutTo {B : Nat} {W : World} {x : Option Addr} {N cap k : Nat} {t : List Rq} (h : Rqs B W (.slice x N cap) t) (hl : t.length = N) (hk : k ≤ N) : Rqs B W (.slice x k cap) (t.take k) := by
  have := RowB.cutB h (by rw [List.length_map]; exact hl) hk
  unfold Rqs
  rw [← List.map_take]  at this
  exact this
theorem Tms.cutTo {B : Nat} {W : World} {x : Option Addr} {N cap k : Nat} {t : List Tm} (h : Tms B W (.slice x N cap) t) (hl : t.length = N) (hk : k ≤ N) : Tms B W (.slice x k cap) (t.take k) := by
  have := RowB.cutB h (by rw [List.length_map]; exact hl) hk
  unfold Tms
  rw [← List.map_take]  at this
  exact this

section
variable {H : Type} {enc : TypeId × Value → H} {w : World} {base : Nat} {spare : Nat → Bool} {held : Bool}
theorem list5 {α : Type} {cs : Array α} (h : cs.size = 5) : ∃ c0 c1 c2 c3 c4, cs = #[c0, c1, c2, c3, c4] := by
  obtain ⟨l⟩ := cs
  match l, h with
  | [c0, c1, c2, c3, c4], _ => exact ⟨c0, c1, c2, c3, c4, rfl⟩

set_option maxRecDepth 100000 in
theorem openVeh {r : Reach} {b0 : Nat} {v : Value} {d : DataW H} {p : List MemPlace} (hv : Value.okWide Tryd.prog w r b0 34 v) (h : DataW.Trod enc Tryd.prog w base spare held 34 v d p) :
    ∃ x : Vh, v = .agg #[.int .i64 x.hx, .int .i64 x.hy, .int .i64 x.cp, .int .i64 x.st, .int .i64 x.en] := by
  obtain ⟨cs, rfl, hsz⟩ := okWide_struct Tryd.underlying34 hv
  obtain ⟨c0, c1, c2, c3, c4, rfl⟩ := list5 (hsz.trans (by kernel_rfl))
  obtain ⟨fuel, hf⟩ := h
  obtain ⟨_, _, h0⟩ := fieldS (i := 0) Tryd.underlying34 hf rfl
  obtain ⟨_, _, h1⟩ := fieldS (i := 1) Tryd.underlying34 hf rfl
  obtain ⟨_, _, h2⟩ := fieldS (i := 2) Tryd.underlying34 hf rfl
  obtain ⟨_, _, h3⟩ := fieldS (i := 3) Tryd.underlying34 hf rfl
  simp [Value.cells, cellsI, cellsPl] at h0 h1 h2 h3
  obtain ⟨_, _, e0⟩ := fieldS (i := 0) Tryd.underlying32 h0 rfl
  obtain ⟨_, _, e1⟩ := fieldS (i := 1) Tryd.underlying32 h0 rfl
  simp [cellsI] at e0 e1
  obtain ⟨hx, rfl, _⟩ := i64_of e0
  obtain ⟨hy, rfl, _⟩ := i64_of e1
  obtain ⟨cp, rfl, _⟩ := i64_of h1
  obtain ⟨st, rfl, _⟩ := i64_of h2
  obtain ⟨en, rfl, _⟩ := i64_of h3
  exact ⟨⟨hx, hy, cp, st, en⟩, rfl⟩
theorem list3T {α : Type} {cs : List α} (h : cs.length = 3) : ∃ a b c, cs = [a, b, c] := by
  match cs, h with
  | [a, b, c], _ => exact ⟨a, b, c, rfl⟩
theorem cellsTm : Tryd.prog.cellsOf 40 = 3 := by kernel_rfl
set_option maxRecDepth 100000 in
/-- Times, in a row. -/
theorem openTms {r : Reach} {b0 : Nat} {v : Value} {d : DataW H} {p : List MemPlace} (hv : Value.okWide Tryd.prog w r b0 30 v) (h : DataW.Trod enc Tryd.prog w base spare held 30 v d p) :
    ∃ l : List Tm, Tms w.heap.size w v l := by
  obtain ⟨a, len, cap, rfl⟩ := okWide_slice Tryd.underlying30 hv
  obtain ⟨fuel, hf⟩ := h
  obtain ⟨l, hl, _⟩ := rows_of (f := tmC) (g := fun _ => True) Tryd.underlying30 cellsTm (by decide) (fun n cs y hy hl => by
    obtain ⟨a0, a1, a2, rfl⟩ := list3T hl
    obtain ⟨_, _, h0⟩ := fieldS (i := 0) Tryd.underlying40 hy rfl
    obtain ⟨_, _, h1⟩ := fieldS (i := 1) Tryd.underlying40 hy rfl
    obtain ⟨_, _, h2⟩ := fieldS (i := 2) Tryd.underlying40 hy rfl
    simp [cellsI] at h0 h1 h2
    obtain ⟨x0, rfl, _⟩ := i64_of h0
    obtain ⟨x1, rfl, _⟩ := i64_of h1
    obtain ⟨x2, rfl, _⟩ := i64_of h2
    exact ⟨⟨x0, x1, x2⟩, rfl, trivial⟩) hf
  exact ⟨l, hl⟩
end
end Go.Proofs.YteefkijmodcijaaDoor.Feas

/-
  A draft as an argument, opened: its bytes in a row that may begin anywhere, its three sizes; three Bools.
-/
import Derived.Test.YtlkijbakfoabaaaDoorClose
import Derived.Test.YtlkijbakfoabaaaDoorDraftNext
import Derived.ChangeSlices
import Derived.ChangeArms
namespace Go.Proofs.YtlkijbakfoabaaaDoor.Scene
open Go.ChangeShapes Go.WideShapes Go.ChangeAt Go.RowKit Go.Proofs.YtlkijbakfoabaaaDoor.Mem
set_option linter.unusedVariables false

section
variable {H : Type} {enc : TypeId × Value → H} {w : World} {base : Nat} {spare : Nat → Bool} {held : Bool}

theorem fieldS {P : Program} {t : TypeId} {fs : Array Field} {fuel : Nat} {cs : List Value} {x : DataW H × List MemPlace} (ht : P.underlying t = some (.struct fs)) (h : DataW.trod enc P w base spare held fuel t cs = some x) {i : Nat} {f : Field} (hf : fs[i]? = some f) :
    ∃ n y, DataW.trod enc P w base spare held n f.type ((cs.drop f.offset).take (P.cellsOf f.type)) = some y := by
  obtain ⟨xs, n, _, _, _, hlen, hall⟩ := DataW.trod_struct ht h
  have h1 := hall i f hf
  have hi : i < fs.size := (Array.getElem?_eq_some_iff.1 hf).1
  rw [List.getElem?_eq_getElem (by omega)] at h1
  exact ⟨n, _, h1⟩
theorem elemA {P : Program} {t e : TypeId} {m fuel : Nat} {cs : List Value} {x : DataW H × List MemPlace} (ht : P.underlying t = some (.array m e)) (h : DataW.trod enc P w base spare held fuel t cs = some x) {i : Nat} (hi : i < m) :
    ∃ n y, DataW.trod enc P w base spare held n e ((cs.drop (i * P.cellsOf e)).take (P.cellsOf e)) = some y := by
  obtain ⟨ys, n, _, _, _, hlen, hel⟩ := DataW.trod_array ht h
  have h1 := hel i hi
  rw [List.getElem?_eq_getElem (by omega)] at h1
  exact ⟨n, _, h1⟩
theorem array5D {α : Type} {cs : Array α} (h : cs.size = 5) : ∃ c0 c1 c2 c3 c4, cs = #[c0, c1, c2, c3, c4] := by
  obtain ⟨l⟩ := cs
  match l, h with
  | [c0, c1, c2, c3, c4], _ => exact ⟨c0, c1, c2, c3, c4, rfl⟩
theorem array3D {α : Type} {cs : Array α} (h : cs.size = 3) : ∃ c0 c1 c2, cs = #[c0, c1, c2] := by
  obtain ⟨l⟩ := cs
  match l, h with
  | [c0, c1, c2], _ => exact ⟨c0, c1, c2, rfl⟩
theorem cellsU8 : Tryd.prog.cellsOf 5 = 1 := by kernel_rfl
theorem cellsB : Tryd.prog.cellsOf 4 = 1 := by kernel_rfl
theorem cellsI : Tryd.prog.cellsOf 3 = 1 := by kernel_rfl
theorem cellsA3 : Tryd.prog.cellsOf 23 = 3 := by kernel_rfl
theorem cellsS8 : Tryd.prog.cellsOf 22 = 1 := by kernel_rfl
theorem u8_of {fuel : Nat} {v : Value} {x : DataW H × List MemPlace} (h : DataW.trod enc Tryd.prog w base spare held fuel 5 [v] = some x) : ∃ n : Int, v = .int .u8 n ∧ 0 ≤ n ∧ n < 256 := by
  obtain ⟨n, hn, _, hw⟩ := DataW.trod_int Tryd.underlying5 h
  simp at hn
  simp [Lit.wf, IntKind.min, IntKind.max, IntKind.bits, IntKind.signed] at hw
  exact ⟨n, hn, by omega, by omega⟩
theorem i64_of {fuel : Nat} {v : Value} {x : DataW H × List MemPlace} (h : DataW.trod enc Tryd.prog w base spare held fuel 3 [v] = some x) : ∃ n : Int, v = .int .i64 n ∧ -9223372036854775808 ≤ n ∧ n ≤ 9223372036854775807 := by
  obtain ⟨n, hn, _, hw⟩ := DataW.trod_int Tryd.underlying3 h
  simp at hn
  simp [Lit.wf, IntKind.min, IntKind.max, IntKind.bits, IntKind.signed] at hw
  exact ⟨n, hn, by omega, by omega⟩
/-- Bytes, in a row. -/
theorem bytes_of {fuel : Nat} {v : Value} {x : DataW H × List MemPlace} (h : DataW.trod enc Tryd.prog w base spare held fuel 22 [v] = some x) : ∃ bs : List Int, RowB w.heap.size w v 1 (bs.map byV) ∧ ∀ x ∈ bs, 0 ≤ x ∧ x < 256 := by
  rcases open_ints Tryd.underlying22 Tryd.underlying5 cellsU8 h with ⟨hcs, _⟩ | ⟨a, len, cap, zs, hcs, _, hl, hm, hz, _, hcell, hwz⟩
  · simp at hcs
    exact ⟨[], ⟨none, 0, hcs, Nat.le_refl _, Nat.zero_le _, fun j r hj => by simp at hj⟩, fun x hx => by cases hx⟩
  · simp at hcs
    subst hcs
    have hzl : len ≤ zs.length := by rw [hz]; split <;> omega
    refine ⟨zs.take len, ⟨some a, cap, by simp [Nat.min_eq_left hzl], by simp; omega, hm, fun j r hj => ?_⟩, fun x hx => ?_⟩
    · rw [List.getElem?_map] at hj
      obtain ⟨y, hy, rfl⟩ := Option.map_eq_some_iff.1 hj
      have hjl : j < len := by have := (List.getElem?_eq_some_iff.1 hy).1; simp at this; omega
      have hc := hcell j (by omega)
      obtain ⟨b, off, spot⟩ := a
      have hspot : spot = none := by simpa [Addr.add] using World.cell?_spot (hcell 0 (by omega))
      subst hspot
      refine ⟨b, off, rfl, block_lt_of_cell (a := ⟨b, off, none⟩) (by simpa [Addr.add] using hcell 0 (by omega)), fun k u hk => ?_⟩
      obtain ⟨rfl, rfl⟩ : k = 0 ∧ u = .int .u8 y := by
        cases k with
        | zero => simp [byV] at hk; exact ⟨rfl, hk.symm⟩
        | succ k => simp [byV] at hk
      rw [add_plain] at hc
      rw [List.getElem?_take_of_lt hjl] at hy
      rw [List.getD_eq_getElem?_getD, hy] at hc
      simpa using hc
    · have hw := hwz x (List.mem_of_mem_take hx)
      simp [Lit.wf, IntKind.min, IntKind.max, IntKind.bits, IntKind.signed] at hw
      omega
set_option maxRecDepth 100000 in
theorem openDraft {r : Reach} {b0 : Nat} {v : Value} {d : DataW H} {p : List MemPlace} (hv : Value.okWide Tryd.prog w r b0 25 v) (h : DataW.Trod enc Tryd.prog w base spare held 25 v d p) :
    ∃ (sv : Value) (bs : List Int) (a b c k : Int), v = .agg #[sv, .int .u8 a, .int .u8 b, .int .u8 c, .int .i64 k] ∧ RowB w.heap.size w sv 1 (bs.map byV) ∧ (∀ x ∈ bs, 0 ≤ x ∧ x < 256) ∧ (0 ≤ a ∧ a < 256) ∧ (0 ≤ b ∧ b < 256) ∧ (0 ≤ c ∧ c < 256) := by
  obtain ⟨cs, rfl, hsz⟩ := okWide_struct Tryd.underlying25 hv
  obtain ⟨c0, c1, c2, c3, c4, rfl⟩ := array5D (hsz.trans (by kernel_rfl))
  obtain ⟨fuel, hf⟩ := h
  obtain ⟨_, _, h0⟩ := fieldS (i := 0) Tryd.underlying25 hf rfl
  obtain ⟨_, _, h1⟩ := fieldS (i := 1) Tryd.underlying25 hf rfl
  obtain ⟨_, _, h2⟩ := fieldS (i := 2) Tryd.underlying25 hf rfl
  simp [Value.cells, cellsI, cellsA3, cellsS8] at h0 h1 h2
  obtain ⟨bs, hb1, hb2⟩ := bytes_of h0
  obtain ⟨_, _, e0⟩ := elemA (i := 0) Tryd.underlying23 h1 (by decide)
  obtain ⟨_, _, e1⟩ := elemA (i := 1) Tryd.underlying23 h1 (by decide)
  obtain ⟨_, _, e2⟩ := elemA (i := 2) Tryd.underlying23 h1 (by decide)
  simp [cellsU8] at e0 e1 e2
  obtain ⟨a, rfl, ha⟩ := u8_of e0
  obtain ⟨b, rfl, hb⟩ := u8_of e1
  obtain ⟨c, rfl, hc⟩ := u8_of e2
  obtain ⟨k, rfl, _⟩ := i64_of h2
  exact ⟨c0, bs, a, b, c, k, rfl, hb1, hb2, ha, hb, hc⟩
set_option maxRecDepth 100000 in
theorem openBools {r : Reach} {b0 : Nat} {v : Value} {d : DataW H} {p : List MemPlace} (hv : Value.okWide Tryd.prog w r b0 50 v) (h : DataW.Trod enc Tryd.prog w base spare held 50 v d p) :
    ∃ a b c : Bool, v = .agg #[.bool a, .bool b, .bool c] := by
  simp only [Value.okWide, Tryd.underlying50] at hv
  obtain ⟨cs, rfl, hsz, _⟩ := hv
  obtain ⟨c0, c1, c2, rfl⟩ := array3D (hsz.trans (by kernel_rfl))
  obtain ⟨fuel, hf⟩ := h
  obtain ⟨_, _, e0⟩ := elemA (i := 0) Tryd.underlying50 hf (by decide)
  obtain ⟨_, _, e1⟩ := elemA (i := 1) Tryd.underlying50 hf (by decide)
  obtain ⟨_, _, e2⟩ := elemA (i := 2) Tryd.underlying50 hf (by decide)
  simp [Value.cells, cellsB] at e0 e1 e2
  obtain ⟨a, ha, _⟩ := DataW.trod_bool Tryd.underlying4 e0
  obtain ⟨b, hb, _⟩ := DataW.trod_bool Tryd.underlying4 e1
  obtain ⟨c, hc, _⟩ := DataW.trod_bool Tryd.underlying4 e2
  simp at ha hb hc
  exact ⟨a, b, c, by rw [ha, hb, hc]⟩
end
end Go.Proofs.YtlkijbakfoabaaaDoor.Scene

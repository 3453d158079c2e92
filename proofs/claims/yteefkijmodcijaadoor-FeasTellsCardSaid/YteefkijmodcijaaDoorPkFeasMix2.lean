import Derived.Test.YteefkijmodcijaaDoorPkFeasMix

/-
  A row of times that is copied, and changed one by one in place; empty rows while a variable is laid.
-/
namespace Go.Proofs.YteefkijmodcijaaDoor.Feas
open Go.ChangeShapes Go.WideShapes Go.ChangeAt Go.RowKit Go.Sort Go.Proofs.YteefkijmodcijaaDoor.Mem Go.Proofs.YteefkijmodcijaaDoor.Route Go.Proofs.YteefkijmodcijaaDoor.When
set_option linter.unusedVariables false

theorem u16_ends {x : Int} (h : (Lit.int .u16 x).wf = true) : 0 ≤ x ∧ x < 65536 := by
  simp [Lit.wf, IntKind.min, IntKind.max, IntKind.bits, IntKind.signed] at h
  omega
theorem EmptyAt.kept {B B' : Nat} {T e : TypeId} {m : Nat} {v : Value} {w w' : World} (h : EmptyAt B e m v w) (hb : Kp B' T w w') (ht : e ≠ T) : EmptyAt B e m v w' := by
  obtain ⟨g, h1, h2⟩ := h
  exact ⟨g, h1, hb.owns h2 ht⟩
theorem ownsAt {W : World} {base g n c : Nat} {e : TypeId} {m : Nat} {xs : List Value} (h : W.ownsRow base e m (.slice (some ⟨g, 0, none⟩) n c) n xs) : ∃ cs, At W g e cs := by
  rcases h.2 with ⟨h1, h0⟩ | ⟨k, cap, cur, h1, hb, hg, h2, h3, _⟩
  · cases h1
  · cases h1; exact ⟨_, hg⟩
theorem tmC_len {t : List Tm} : ∀ r ∈ t.map tmC, r.length = 3 := fun r hr => by obtain ⟨s, _, rfl⟩ := List.mem_map.1 hr; rfl
theorem tms_flat {B : Nat} {W : World} {b : Addr} {N cap : Nat} {l : List Tm} (h : Tms B W (.slice (some b) N cap) l) : ∀ j u, (flatT l)[j]? = some u → W.cell? (b.add j) = some u := by
  intro j u hj
  obtain ⟨i, k, r, e, hr, hu⟩ := flat_of (m := 3) (by decide) tmC_len j u hj
  obtain ⟨g, o, hx, hg, hc⟩ := RowB.row h hr
  cases hx
  have := hc k u hu
  rw [add_at, e, show o + (i * 3 + k) = o + i * 3 + k by omega]
  exact this
theorem flatT_one {t : List Tm} : ∀ u ∈ flatT t, u.oneCell' = true := by
  intro u hu
  simp only [flatT, List.mem_flatten, List.mem_map] at hu
  obtain ⟨r, ⟨s, _, rfl⟩, hu⟩ := hu
  simp only [tmC, List.mem_cons, List.not_mem_nil, or_false] at hu
  rcases hu with rfl | rfl | rfl <;> rfl
theorem flatT_get {L : List Tm} {k : Nat} {q : Tm} (h : L[k]? = some q) (j : Nat) (hj : j < 3) : (flatT L)[k * 3 + j]? = (tmC q)[j]? := by
  have hl : (tmC q)[j]? = some ((tmC q)[j]'(by simp [tmC]; omega)) := List.getElem?_eq_getElem _
  rw [hl]
  exact flat_get (m := 3) tmC_len k (tmC q) (by rw [List.getElem?_map, h]; rfl) j _ hl
theorem setT_get {L : List Tm} {k : Nat} {q q' : Tm} (h : L[k]? = some q) : (L.set k q')[k]? = some q' := by
  have hk := (List.getElem?_eq_some_iff.1 h).1
  simp [hk]
theorem time_set {L : List Tm} {k : Nat} {q : Tm} (h : L[k]? = some q) (x y z : Int) : (((flatT L).set (k * 3 + 0) (.int .i64 x)).set (k * 3 + 1) (.int .i64 y)).set (k * 3 + 2) (.int .i64 z) = flatT (L.set k ⟨x, y, z⟩) := by
  unfold flatT
  rw [flat_setL (f := tmC) (m := 3) (x := q) (x' := ⟨x, q.be, q.lv⟩) (v := .int .i64 x) (fun _ => rfl) (i := 0) (by decide) rfl h,
    flat_setL (f := tmC) (m := 3) (x := ⟨x, q.be, q.lv⟩) (x' := ⟨x, y, q.lv⟩) (v := .int .i64 y) (fun _ => rfl) (i := 1) (by decide) rfl (setT_get h), List.set_set,
    flat_setL (f := tmC) (m := 3) (x := ⟨x, y, q.lv⟩) (x' := ⟨x, y, z⟩) (v := .int .i64 z) (fun _ => rfl) (i := 2) (by decide) rfl (setT_get h), List.set_set]
theorem time_set3 {L : List Tm} {k : Nat} {q : Tm} (h : L[k]? = some q) (x y z : Int) : (((flatT L).set (k * 3) (.int .i64 x)).set (k * 3 + 1) (.int .i64 y)).set (k * 3 + 2) (.int .i64 z) = flatT (L.set k ⟨x, y, z⟩) := time_set h x y z
end Go.Proofs.YteefkijmodcijaaDoor.Feas

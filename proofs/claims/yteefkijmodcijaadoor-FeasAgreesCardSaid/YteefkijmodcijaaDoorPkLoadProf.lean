import Derived.Test.YteefkijmodcijaaDoorPkLoadRuns
import Derived.Test.YteefkijmodcijaaDoorPkRouteLen
import Derived.Laws.MakeOwn

/-
  The contract of package load's Profile.
-/
namespace Go.Proofs.YteefkijmodcijaaDoor.Load
open Go.RowKit Go.Shelf Go.Proofs.YteefkijmodcijaaDoor.Mem Go.Proofs.YteefkijmodcijaaDoor.Route Go.Proofs.YteefkijmodcijaaDoor.When Go.Proofs.YteefkijmodcijaaDoor.Up
set_option linter.unusedVariables false

attribute [local go_sem] Oper.semAt_some

theorem cellsOld {A A' : World} {g n : Nat} {t : TypeId} {cs : Array Value} {row : Option Nat} (h : At A g t cs) (hg : A.grownBy A' row) (hr : ∀ r, row = some r → n ≤ r ∧ ∃ o, A.heap[r]? = some o ∧ o.isCells = false) : At A' g t cs :=
  (hg.block g h.inside (fun e => by
    obtain ⟨_, o, ho, hc⟩ := hr g e.symm
    have h' : A.heap[g]? = some (.cells cs t (0, 0)) := h
    rw [h'] at ho
    cases ho
    cases hc)).trans h

theorem made_ints (N : Nat) (hN : N ≤ 1000000) : ∃ cs : Array Value, cs.size = N ∧ ∀ W, (Instr.makeSlice 135 (.int .i64 (N : Int)) (.int .i64 (N : Int))).run Tryd.prog W = .ok (.slice (some ⟨W.heap.size, 0, none⟩) N N) (W.alloc (.cells cs 3)) := by
  obtain ⟨i, hi, hz, hs, hb⟩ := info_parts info_int
  refine ⟨madeCells (Value.int .i64 0).cells (N * 1), by rw [size_madeCells]; omega, fun W => ?_⟩
  have h := run_makeSlice (P := Tryd.prog) W 135 3 i (.int .i64 0) Tryd.underlying135 hi hz .i64 .i64 N N (by omega) (by omega) (by rw [hs]; omega) (by rw [hb]; omega) (by omega)
  rw [hs] at h
  simpa using h

theorem res_vi {fn : Func} {p q : Tmp} (h : fn.results = #[.tmp p, .tmp q]) {tmps : Array Value} {w : World} {a b : Value} (hp : tmps.getD p undef = a) (hq : tmps.getD q undef = b) : (results fn tmps).run Tryd.prog w = .ok (.tuple #[a, b]) w := by
  have hp' : tmps[p]?.getD undef = a := by simpa using hp
  have hq' : tmps[q]?.getD undef = b := by simpa using hq
  simp only [results, h]
  go_simp

/-- The row of numbers that a call has made, filled up to what has come. -/
def Filled (W : World) (p N : Nat) (pre : List (Int × Int)) : Prop :=
  ∃ cs : Array Value, At W p 3 cs ∧ cs.size = N ∧ ∀ (j : Nat) (x : Int), (pre.map (·.2))[j]? = some x → cs[j]? = some (.int .i64 x)
structure ProfI (w : World) (p N : Nat) (vl vt : Value) (l : List (Int × Int)) (t : List Rq) (pre : List (Int × Int)) (W : World) : Prop where
  row : Filled W p N pre
  res : At W (p + 1) 135 #[.slice (some ⟨p, 0, none⟩) N N]
  hl : At W (p + 2) 28 #[vl]
  ht : At W (p + 3) 29 #[vt]
  below : Below w.heap.size w W
theorem ProfI.old {w : World} {p N : Nat} {vl vt : Value} {l : List (Int × Int)} {t : List Rq} {m : Nat} (hm : w.heap.size ≤ m) : Old m (ProfI w p N vl vt l t) := by
  rintro pre A A' row h hg hr
  obtain ⟨cs, h1, h2, h3⟩ := h.row
  exact ⟨⟨cs, cellsOld h1 hg hr, h2, h3⟩, cellsOld h.res hg hr, cellsOld h.hl hg hr, cellsOld h.ht hg hr, h.below.grown hg h.below.size (fun k e => by have := (hr k e).1; omega)⟩
theorem Filled.next {W : World} {p N : Nat} {pre : List (Int × Int)} (h : Filled W p N pre) (hk : pre.length < N) (y : Int × Int) : Filled (W.setCell ⟨p, pre.length, none⟩ (.int .i64 y.2)) p N (pre ++ [y]) := by
  obtain ⟨cs, h1, h2, h3⟩ := h
  refine ⟨_, h1.put _ _, by simpa using h2, fun j x hj => ?_⟩
  rw [List.map_append] at hj
  rcases Nat.lt_or_ge j pre.length with hlt | hge
  · rw [List.getElem?_append_left (by simpa using hlt)] at hj
    rw [Array.getElem?_setIfInBounds_ne (by omega)]
    exact h3 j x hj
  · rw [List.getElem?_append_right (by simpa using hge)] at hj
    have h0 : j - pre.length = 0 := by
      have := (List.getElem?_eq_some_iff.1 hj).1
      simp at this
      omega
    simp [h0] at hj
    have hj2 : j = pre.length := by omega
    subst hj2
    rw [Array.getElem?_setIfInBounds_self_of_lt (by omega), hj]
theorem Filled.ints {W : World} {p N : Nat} {pre : List (Int × Int)} (h : Filled W p N pre) (hN : pre.length = N) (hm : N ≤ 1000000) : Ints W.heap.size W (.slice (some ⟨p, 0, none⟩) N N) (pre.map (·.2)) := by
  obtain ⟨cs, h1, h2, h3⟩ := h
  refine ⟨some ⟨p, 0, none⟩, N, by simp [hN], by simp [hN], by unfold maxLen; omega, (fun e => by cases e), fun j r hj => ⟨p, 0, rfl, h1.inside, fun k u hk => ?_⟩⟩
  rw [List.getElem?_map] at hj
  obtain ⟨x, hx, rfl⟩ := Option.map_eq_some_iff.1 hj
  simp only [inV] at hk
  have hk0 : k = 0 := by
    have := (List.getElem?_eq_some_iff.1 hk).1
    simp at this
    exact this
  subst hk0
  simp at hk
  subst hk
  rw [h1.cell]
  simpa using h3 j x hx

theorem ProfI.next {w : World} {p N : Nat} {vl vt : Value} {l : List (Int × Int)} {t : List Rq} {pre : List (Int × Int)} {W : World} (h : ProfI w p N vl vt l t pre W) (hk : pre.length < N) (y : Int × Int) (hp : w.heap.size ≤ p) : ProfI w p N vl vt l t (pre ++ [y]) (W.setCell ⟨p, pre.length, none⟩ (.int .i64 y.2)) :=
  ⟨h.row.next hk y, h.res.far (by omega) _ _, h.hl.far (by omega) _ _, h.ht.far (by omega) _ _, h.below.setCell (by simp; omega) _⟩


end Go.Proofs.YteefkijmodcijaaDoor.Load

import Derived.Test.YteefkijmodcijaaDoorPkFeasMix2
import Derived.Test.YteefkijmodcijaaDoorPkRouteRefChk

/-
  What a drawn region leaves that lays four rows of times, one of them a copy with a time more: rows of the call's own, by what has come up. No program's walk here.
-/
namespace Go.Proofs.YteefkijmodcijaaDoor.Feas
open Go.RowKit Go.Sort Go.Proofs.YteefkijmodcijaaDoor.Mem Go.Proofs.YteefkijmodcijaaDoor.Route Go.Proofs.YteefkijmodcijaaDoor.When
set_option linter.unusedVariables false

theorem Kp.grown {B base n m : Nat} {T : TypeId} {a b : World} {v : Value} {xs : List Value} (ho : a.ownsRow base T m v n xs) (hb : B ≤ base) (hg : a.grownBy b v.ownBlock) (hB : B ≤ a.heap.size) : Kp B T a b := by
  refine ⟨(Below.refl _ _).grown hg hB (fun r e => by have := owns_row ho r e; omega), fun i cs t f hi ht => ?_⟩
  refine (hg.block i (Array.getElem?_eq_some_iff.1 hi).1 (fun e => ?_)).trans hi
  rcases ho.2 with ⟨h1, h0⟩ | ⟨k, cap, cur, h1, hk, hk2, _⟩
  · rw [h1] at e; cases e
  · rw [h1] at e
    simp only [Value.ownBlock, Option.some.injEq] at e
    subst e
    rw [hi] at hk2
    cases hk2
    exact ht rfl


structure ZT (M N : Nat) (xs ys' : List Value) (U0 U1 U3 : Value) (done : Nat → Bool) (ys : Nat → Value) (W : World) : Prop where
  e : done 2 = true → done 4 = false → EmptyAt M 40 3 (ys 2) W
  r : done 4 = true → done 7 = false → RowAt M 40 3 N xs (ys 4) W
  n : done 6 = true → done 7 = false → ∃ g : Nat, ys 6 = .slice (some ⟨g, 0, none⟩) 1 1 ∧ M ≤ g ∧ At W g 40 #[.int .i64 0, .int .i64 0, .int .i64 0]
  s : done 7 = true → RowAt M 40 3 (N + 1) ys' (ys 7) W
  o : done 7 = true → done 4 = true
  b : done 13 = true → done 7 = true ∧ ys 13 = .agg #[U0, U1, ys 7, U3]
section
variable {M N : Nat} {xs ys' : List Value} {U0 U1 U3 : Value} {done : Nat → Bool} {ys : Nat → Value} {W W' : World} {v : Value}
theorem ZT.start : ZT M N xs ys' U0 U1 U3 (fun _ => false) ys W := ⟨fun h => (by cases h), fun h => (by cases h), fun h => (by cases h), fun h => (by cases h), fun h => (by cases h), fun h => (by cases h)⟩
theorem ZT.light {k : Nat} (h : ZT M N xs ys' U0 U1 U3 done ys W) (h2 : k ≠ 2 ∧ k ≠ 4 ∧ k ≠ 6 ∧ k ≠ 7 ∧ k ≠ 13) (hb : Below W.heap.size W W') : ZT M N xs ys' U0 U1 U3 (Sched.mark done k) (Sched.upd ys k v) W' := by
  obtain ⟨k2, k4, k6, k7, k13⟩ := h2
  have m2 : Sched.mark done k 2 = done 2 := mark_ne (Ne.symm k2)
  have m4 : Sched.mark done k 4 = done 4 := mark_ne (Ne.symm k4)
  have m6 : Sched.mark done k 6 = done 6 := mark_ne (Ne.symm k6)
  have m7 : Sched.mark done k 7 = done 7 := mark_ne (Ne.symm k7)
  have m13 : Sched.mark done k 13 = done 13 := mark_ne (Ne.symm k13)
  have u2 : Sched.upd ys k v 2 = ys 2 := upd_ne (Ne.symm k2)
  have u4 : Sched.upd ys k v 4 = ys 4 := upd_ne (Ne.symm k4)
  have u6 : Sched.upd ys k v 6 = ys 6 := upd_ne (Ne.symm k6)
  have u7 : Sched.upd ys k v 7 = ys 7 := upd_ne (Ne.symm k7)
  have u13 : Sched.upd ys k v 13 = ys 13 := upd_ne (Ne.symm k13)
  refine ⟨?_, ?_, ?_, ?_, ?_, ?_⟩
  · rw [m2, m4, u2]; exact fun a b => (h.e a b).keep hb
  · rw [m4, m7, u4]; exact fun a b => (h.r a b).keep hb
  · rw [m6, m7, u6]
    intro a b
    obtain ⟨g, e, hg, hA⟩ := h.n a b
    exact ⟨g, e, hg, hA.keep hb hA.inside⟩
  · rw [m7, u7]; exact fun a => (h.s a).keep hb
  · rw [m4, m7]; exact h.o
  · rw [m7, m13, u7, u13]; exact h.b
theorem ZT.put2 (h : ZT M N xs ys' U0 U1 U3 done ys W) (hb : Below W.heap.size W W') (hn : EmptyAt M 40 3 v W') : ZT M N xs ys' U0 U1 U3 (Sched.mark done 2) (Sched.upd ys 2 v) W' := by
  refine ⟨?_, ?_, ?_, ?_, ?_, ?_⟩
  · rw [upd_eq]; exact fun _ _ => hn
  · rw [mark_ne (by decide), mark_ne (by decide), upd_ne (by decide)]; exact fun a b => (h.r a b).keep hb
  · rw [mark_ne (by decide), mark_ne (by decide), upd_ne (by decide)]
    intro a b
    obtain ⟨g, e, hg, hA⟩ := h.n a b
    exact ⟨g, e, hg, hA.keep hb hA.inside⟩
  · rw [mark_ne (by decide), upd_ne (by decide)]; exact fun a => (h.s a).keep hb
  · rw [mark_ne (by decide), mark_ne (by decide)]; exact h.o
  · rw [mark_ne (by decide), mark_ne (by decide), upd_ne (by decide), upd_ne (by decide)]; exact h.b
theorem ZT.put4 (h : ZT M N xs ys' U0 U1 U3 done ys W) (hb : Below W.heap.size W W') (hn : RowAt M 40 3 N xs v W') : ZT M N xs ys' U0 U1 U3 (Sched.mark done 4) (Sched.upd ys 4 v) W' := by
  refine ⟨?_, ?_, ?_, ?_, ?_, ?_⟩
  · intro _ b; simp [Sched.mark] at b
  · rw [upd_eq]; exact fun _ _ => hn
  · rw [mark_ne (by decide), mark_ne (by decide), upd_ne (by decide)]
    intro a b
    obtain ⟨g, e, hg, hA⟩ := h.n a b
    exact ⟨g, e, hg, hA.keep hb hA.inside⟩
  · rw [mark_ne (by decide), upd_ne (by decide)]; exact fun a => (h.s a).keep hb
  · intro _; simp [Sched.mark]
  · rw [mark_ne (by decide), mark_ne (by decide), upd_ne (by decide), upd_ne (by decide)]; exact h.b
theorem ZT.put6 {g : Nat} (h : ZT M N xs ys' U0 U1 U3 done ys W) (hb : Below W.heap.size W W') (hg : M ≤ g) (hA : At W' g 40 #[.int .i64 0, .int .i64 0, .int .i64 0]) : ZT M N xs ys' U0 U1 U3 (Sched.mark done 6) (Sched.upd ys 6 (.slice (some ⟨g, 0, none⟩) 1 1)) W' := by
  refine ⟨?_, ?_, ?_, ?_, ?_, ?_⟩
  · rw [mark_ne (by decide), mark_ne (by decide), upd_ne (by decide)]; exact fun a b => (h.e a b).keep hb
  · rw [mark_ne (by decide), mark_ne (by decide), upd_ne (by decide)]; exact fun a b => (h.r a b).keep hb
  · rw [upd_eq]; exact fun _ _ => ⟨g, rfl, hg, hA⟩
  · rw [mark_ne (by decide), upd_ne (by decide)]; exact fun a => (h.s a).keep hb
  · rw [mark_ne (by decide), mark_ne (by decide)]; exact h.o
  · rw [mark_ne (by decide), mark_ne (by decide), upd_ne (by decide), upd_ne (by decide)]; exact h.b
theorem ZT.put7 (h : ZT M N xs ys' U0 U1 U3 done ys W) (h4 : done 4 = true) (h7 : done 7 = false) (hn : RowAt M 40 3 (N + 1) ys' v W') : ZT M N xs ys' U0 U1 U3 (Sched.mark done 7) (Sched.upd ys 7 v) W' := by
  refine ⟨?_, ?_, ?_, ?_, ?_, ?_⟩
  · rw [mark_ne (i := 4) (by decide)]; intro _ b; rw [h4] at b; cases b
  · intro _ b; simp [Sched.mark] at b
  · intro _ b; simp [Sched.mark] at b
  · rw [upd_eq]; exact fun _ => hn
  · rw [mark_ne (i := 4) (by decide)]; exact fun _ => h4
  · rw [mark_ne (i := 13) (by decide)]
    intro b
    have := (h.b b).1
    rw [h7] at this; cases this
theorem ZT.put13 (h : ZT M N xs ys' U0 U1 U3 done ys W) (h7 : done 7 = true) (hv : v = .agg #[U0, U1, ys 7, U3]) : ZT M N xs ys' U0 U1 U3 (Sched.mark done 13) (Sched.upd ys 13 v) W := by
  refine ⟨?_, ?_, ?_, ?_, ?_, ?_⟩
  · rw [mark_ne (by decide), mark_ne (by decide), upd_ne (by decide)]; exact h.e
  · rw [mark_ne (by decide), mark_ne (by decide), upd_ne (by decide)]; exact h.r
  · rw [mark_ne (by decide), mark_ne (by decide), upd_ne (by decide)]; exact h.n
  · rw [mark_ne (by decide), upd_ne (by decide)]; exact h.s
  · rw [mark_ne (by decide), mark_ne (by decide)]; exact h.o
  · rw [mark_ne (i := 7) (by decide), upd_eq, upd_ne (i := 7) (by decide)]; exact fun _ => ⟨h7, hv⟩
end
end Go.Proofs.YteefkijmodcijaaDoor.Feas

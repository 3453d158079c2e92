/-
  A drawn region that calls a function for two numbers and a Bool and lays the two in a new variable: what is known of its values, and of the variable. Nothing here speaks of a program's text.
-/
import Derived.Test.YtphpkcndaifoiaaWhenAt
import Derived.Test.YtphpkcndaifoiaaRouteRefChk
import Derived.Test.YtphpkcndaifoiaaSched
namespace Go.Proofs.Ytphpkcndaifoiaa.When
open Go.RowKit Go.Proofs.Ytphpkcndaifoiaa.Mem Go.Proofs.Ytphpkcndaifoiaa.Route
set_option linter.unusedVariables false

/-- The values, one for each operation, as far as they are told. -/
def VT (vals : List Value) (i : Nat) (v : Value) (_ : World) : Prop := ∀ u, vals[i]? = some u → v = u
/-- The new variable is operation 13, its store operation 14. -/
structure ZT (M : Nat) (T : TypeId) (x y : Int) (done : Nat → Bool) (ys : Nat → Value) (W : World) : Prop where
  ord : done 14 = true → done 13 = true
  one : done 13 = true → ∃ (g : Nat) (a b : Int), ys 13 = bptr g ∧ M ≤ g ∧ At W g T #[.int .i64 a, .int .i64 b] ∧ (done 14 = true → a = x ∧ b = y)
theorem ZT.start (M : Nat) (T : TypeId) (x y : Int) (ys : Nat → Value) (W : World) : ZT M T x y (fun _ => false) ys W := ⟨fun h => (by cases h), fun h => (by cases h)⟩
theorem ZT.light {M k : Nat} {T : TypeId} {x y : Int} {done : Nat → Bool} {ys : Nat → Value} {W W' : World} {v : Value} (h : ZT M T x y done ys W) (hb : Below W.heap.size W W') (hk : k < 13) : ZT M T x y (Sched.mark done k) (Sched.upd ys k v) W' := by
  refine ⟨fun h1 => ?_, fun h1 => ?_⟩
  · rw [mark_ne (by omega)] at h1 ⊢; exact h.ord h1
  · rw [mark_ne (by omega)] at h1
    rw [upd_ne (by omega), mark_ne (by omega)]
    obtain ⟨g, a, b, e, h3, h4, h5⟩ := h.one h1
    exact ⟨g, a, b, e, h3, h4.keep hb h4.inside, h5⟩
theorem ZT.new {M : Nat} {T : TypeId} {x y : Int} {done : Nat → Bool} {ys : Nat → Value} {W : World} (h : ZT M T x y done ys W) (hn : done 13 = false) (hM : M ≤ W.heap.size) : ZT M T x y (Sched.mark done 13) (Sched.upd ys 13 (bptr W.heap.size)) (W.alloc (.cells #[.int .i64 0, .int .i64 0] T)) := by
  refine ⟨fun _ => by simp [Sched.mark], fun _ => ⟨W.heap.size, 0, 0, upd_eq, hM, At.new _ _ _, fun h8 => ?_⟩⟩
  rw [mark_ne (by omega)] at h8
  have := h.ord h8
  rw [hn] at this; cases this
theorem ZT.put {M g : Nat} {T : TypeId} {x y a b : Int} {done : Nat → Bool} {ys : Nat → Value} {W : World} {v : Value} (h : ZT M T x y done ys W) (h6 : done 13 = true) (e : ys 13 = bptr g) (hM : M ≤ g) (hA : At W g T #[.int .i64 a, .int .i64 b]) :
    ZT M T x y (Sched.mark done 14) (Sched.upd ys 14 v) ((W.setCell ⟨g, 0, none⟩ (.int .i64 x)).setCell ⟨g, 1, none⟩ (.int .i64 y)) :=
  ⟨fun _ => mark_of h6, fun _ => ⟨g, x, y, by rw [upd_ne (by omega)]; exact e, hM, put2 hA, fun _ => ⟨rfl, rfl⟩⟩⟩

end Go.Proofs.Ytphpkcndaifoiaa.When

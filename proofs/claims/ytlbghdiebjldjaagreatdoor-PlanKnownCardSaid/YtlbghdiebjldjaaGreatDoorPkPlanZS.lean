import Derived.Test.YtlbghdiebjldjaaGreatDoorPkPlanRefNew

namespace Go.Proofs.YtlbghdiebjldjaaGreatDoor.Plan
open Go.RowKit Go.Proofs.YtlbghdiebjldjaaGreatDoor.Mem
set_option linter.unusedVariables false
structure ZS (s : Nat) (P0 : World → Prop) (P1 : Value → World → Prop) (done : Nat → Bool) (ys : Nat → Value) (W : World) : Prop where
 a : done s = false → P0 W
 b : done s = true → P1 (ys s) W
section
variable {s : Nat} {P0 : World → Prop} {P1 : Value → World → Prop} {done : Nat → Bool} {ys : Nat → Value} {W W' : World}
theorem ZS.start (ys : Nat → Value) (h : P0 W) : ZS s P0 P1 (fun _ => false) ys W := ⟨fun _ => h, fun h => (by cases h)⟩
theorem ZS.light {k : Nat} {v : Value} (h : ZS s P0 P1 done ys W) (hs : s ≠ k) (h0 : P0 W → P0 W') (h1 : ∀ x, P1 x W → P1 x W') : ZS s P0 P1 (Sched.mark done k) (Sched.upd ys k v) W' :=
 ⟨by rw [mark_ne hs]; exact fun hd => h0 (h.a hd), by rw [mark_ne hs, upd_ne hs]; exact fun hd => h1 _ (h.b hd)⟩
theorem ZS.put {v : Value} (h : P1 v W') : ZS s P0 P1 (Sched.mark done s) (Sched.upd ys s v) W' :=
 ⟨fun hd => (by rw [mark_eq] at hd; cases hd), fun _ => (by rw [upd_eq]; exact h)⟩
end
end Go.Proofs.YtlbghdiebjldjaaGreatDoor.Plan

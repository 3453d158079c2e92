/-
  Contracts of package window's calls Has and Wait.
-/
import Derived.Test.YtphpkcndaifoiaaWindowAsk2
namespace Go.Proofs.Ytphpkcndaifoiaa.Window
open Go.RowKit Go.Sort Go.Proofs.Ytphpkcndaifoiaa.Mem
set_option linter.unusedVariables false

theorem inB_any (e l t : Int) (w : World) :
    Calls Try.prog 55 #[.agg #[.int .i64 e, .int .i64 l], .int .i64 t] w fun r w' => r = .returned (.bool (decide (e ≤ t) && decide (t ≤ l))) ∧ Below w.heap.size w w' :=
  (has_any e l t w).mono fun r w' ⟨h1, h2⟩ => ⟨h1, by subst h2; exact (Below.refl _ _).alloc (Nat.le_refl _) _⟩

theorem in_Wait1 : ∀ args w, (callFunc 54 args).run Try.prog w = .ok (.enter 54 args) w := fun args w => enters Try.func54 (by kernel_rfl) rfl args w



theorem max_has (e l t : Int) : hasB e l (max t e) = (okB e l && (decide (e ≤ max t e) && decide (max t e ≤ l))) := rfl

theorem Wait1_any (e l x y t : Int) (b : Nat) (w : World) (hb : b < w.heap.size) (ht : w.cell? ⟨b, 0, none⟩ = some (.int .i64 t)) :
    Calls Try.prog 54 #[.agg #[.int .i64 e, .int .i64 l, .int .i64 x, .int .i64 y], .pointer (some ⟨b, 0, none⟩)] w fun r w' => r = .returned (.tuple #[.int .i64 (max t e), .bool (decide (e ≤ max t e) && decide (max t e ≤ l))]) ∧ Below w.heap.size w w' := by
  have hb0 : Below w.heap.size w (w.alloc (.cells #[.int .i64 e, .int .i64 l, .int .i64 x, .int .i64 y] 104)) := (Below.refl _ _).alloc (Nat.le_refl _) _
  go_enter Try.func54, Try.ntmps54
  go_wp2_with fail
  refine (inB_any _ _ _ _).mono ?_
  rintro r w1 ⟨rfl, hb1⟩
  have hE := hb0.trans (hb1.mono hb0.size)
  clear hb1 hb0
  go_wp2
  refine bodyPost_ret (v := .tuple #[.int .i64 _, .bool _]) (by simp [results, Try.results54, go_sem]; exact ⟨rfl, rfl⟩) rfl ?_
  exact ⟨rfl, hE⟩

theorem Wait_any (e l t : Int) (w : World) :
    Calls Try.prog 41 #[.agg #[.int .i64 e, .int .i64 l], .int .i64 t] w fun r w' => r = .returned (.tuple #[.int .i64 (waitV e l t), .bool (waitB e l t)]) ∧ Below w.heap.size w w' := by
  have hT0 : At ((w.alloc (.cells #[.int .i64 e, .int .i64 l] 47)).alloc (.cells #[.int .i64 t] 3)) (w.heap.size + 1) 3 #[.int .i64 t] := At.new_ _ _ _ (by simp)
  have hb0 : Below w.heap.size w ((w.alloc (.cells #[.int .i64 e, .int .i64 l] 47)).alloc (.cells #[.int .i64 t] 3)) := ((Below.refl _ _).alloc (Nat.le_refl _) _).alloc (by simp) _
  go_enter Try.func41, Try.ntmps41
  go_wp2_with fail
  generalize ((w.alloc (.cells #[.int .i64 e, .int .i64 l] 47)).alloc (.cells #[.int .i64 t] 3)) = w0 at *
  refine (ifMayInt _ _ _ _ (max t e) (decide (e ≤ max t e) && decide (max t e ≤ l)) _ in_Wait1 (fun _ w1 hb1 => Wait1_any _ _ _ _ t _ w1 (hT0.keep hb1 hT0.inside).inside (by simpa using (hT0.keep hb1 hT0.inside).cell 0))).mono ?_
  rintro r w1 ⟨rfl, hb1⟩
  have hE := hb0.trans (hb1.mono hb0.size)
  clear hb1 hb0 hT0
  go_wp2
  refine bodyPost_ret (v := .tuple #[.int .i64 _, .bool _]) (by simp [results, Try.results41, go_sem]; exact ⟨rfl, rfl⟩) rfl ?_
  exact ⟨rfl, hE⟩

end Go.Proofs.Ytphpkcndaifoiaa.Window

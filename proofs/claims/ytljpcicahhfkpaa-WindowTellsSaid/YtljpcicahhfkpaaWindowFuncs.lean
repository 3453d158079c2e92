/-
  Contracts of package window's calls Has and Wait.
-/
import Derived.Test.YtljpcicahhfkpaaWindowAsk2
namespace Go.Proofs.Ytljpcicahhfkpaa.Window
open Go.RowKit Go.Sort Go.Proofs.Ytljpcicahhfkpaa.Mem
set_option linter.unusedVariables false

theorem inB_any (e l t : Int) (w : World) :
    Calls Try.prog 24 #[.agg #[.int .i64 e, .int .i64 l], .int .i64 t] w fun r w' => r = .returned (.bool (decide (e ≤ t) && decide (t ≤ l))) ∧ Below w.heap.size w w' :=
  (has_any e l t w).mono fun r w' ⟨h1, h2⟩ => ⟨h1, by subst h2; exact (Below.refl _ _).alloc (Nat.le_refl _) _⟩

theorem in_Has1 : ∀ args w, (callFunc 26 args).run Try.prog w = .ok (.enter 26 args) w := fun args w => enters Try.func26 (by kernel_rfl) rfl args w
theorem in_Wait1 : ∀ args w, (callFunc 23 args).run Try.prog w = .ok (.enter 23 args) w := fun args w => enters Try.func23 (by kernel_rfl) rfl args w

theorem Has1_any (e l x y t : Int) (b : Nat) (w : World) (hb : b < w.heap.size) (ht : w.cell? ⟨b, 0, none⟩ = some (.int .i64 t)) :
    Calls Try.prog 26 #[.agg #[.int .i64 e, .int .i64 l, .int .i64 x, .int .i64 y], .pointer (some ⟨b, 0, none⟩)] w fun r w' => r = .returned (.tuple #[.int .i64 t, .bool (decide (e ≤ t) && decide (t ≤ l))]) ∧ Below w.heap.size w w' := by
  have hS0 : At (w.alloc (.cells #[.int .i64 e, .int .i64 l, .int .i64 x, .int .i64 y] 48)) w.heap.size 48 #[.int .i64 e, .int .i64 l, .int .i64 x, .int .i64 y] := At.new w _ _
  have hb0 : Below w.heap.size w (w.alloc (.cells #[.int .i64 e, .int .i64 l, .int .i64 x, .int .i64 y] 48)) := (Below.refl _ _).alloc (Nat.le_refl _) _
  go_enter Try.func26, Try.ntmps26
  go_wp2_with fail
  generalize (w.alloc (.cells #[.int .i64 e, .int .i64 l, .int .i64 x, .int .i64 y] 48)) = w0 at *
  have s0 := hS0.cell 0
  have s1 := hS0.cell 1
  have ht0 := (hb0.cell (p := ⟨b, 0, none⟩) hb).trans ht
  clear ht
  simp at s0 s1
  have ks0 := cell_regrown s0
  have ks1 := cell_regrown s1
  have kt0 := cell_regrown ht0
  have cH := fun (x y z : Int) d os => Calls.regrown_of (inB_any x y z (grow (redrawn w0 d) os))
  refine wp_region_quiet_below (by kernel_rfl) (by kernel_rfl) ?_
  repeat (go_big_quiet_step (exact cH _ _ _ _ _))
  refine wpQuiet_nil ?_
  intro _ hw'
  obtain ⟨⟨dq, osq⟩, hw''⟩ := hw'
  subst hw''
  have hE := hb0.trans ((below_regrown w0 dq osq).mono hb0.size)
  clear cH ks0 ks1 kt0 s0 s1 hb0
  go_wp2
  refine bodyPost_ret (v := .tuple #[.int .i64 _, .bool _]) (by simp [results, Try.results26, go_sem]; exact ⟨rfl, rfl⟩) rfl ?_
  exact ⟨rfl, hE⟩

theorem Has_any (e l t : Int) (w : World) :
    Calls Try.prog 15 #[.agg #[.int .i64 e, .int .i64 l], .int .i64 t] w fun r w' => r = .returned (.bool (hasB e l t)) ∧ Below w.heap.size w w' := by
  have hT0 : At ((w.alloc (.cells #[.int .i64 e, .int .i64 l] 23)).alloc (.cells #[.int .i64 t] 3)) (w.heap.size + 1) 3 #[.int .i64 t] := At.new_ _ _ _ (by simp)
  have hb0 : Below w.heap.size w ((w.alloc (.cells #[.int .i64 e, .int .i64 l] 23)).alloc (.cells #[.int .i64 t] 3)) := ((Below.refl _ _).alloc (Nat.le_refl _) _).alloc (by simp) _
  go_enter Try.func15, Try.ntmps15
  go_wp2_with fail
  generalize ((w.alloc (.cells #[.int .i64 e, .int .i64 l] 23)).alloc (.cells #[.int .i64 t] 3)) = w0 at *
  refine (ifMayInt _ _ _ _ t (decide (e ≤ t) && decide (t ≤ l)) _ in_Has1 (fun _ w1 hb1 => Has1_any _ _ _ _ t _ w1 (hT0.keep hb1 hT0.inside).inside (by simpa using (hT0.keep hb1 hT0.inside).cell 0))).mono ?_
  rintro r w1 ⟨rfl, hb1⟩
  have hE := hb0.trans (hb1.mono hb0.size)
  clear hb1 hb0 hT0
  go_wp2
  go_ret
  exact ⟨rfl, hE⟩

theorem max_has (e l t : Int) : hasB e l (max t e) = (okB e l && (decide (e ≤ max t e) && decide (max t e ≤ l))) := rfl

theorem Wait1_any (e l x y t : Int) (b : Nat) (w : World) (hb : b < w.heap.size) (ht : w.cell? ⟨b, 0, none⟩ = some (.int .i64 t)) :
    Calls Try.prog 23 #[.agg #[.int .i64 e, .int .i64 l, .int .i64 x, .int .i64 y], .pointer (some ⟨b, 0, none⟩)] w fun r w' => r = .returned (.tuple #[.int .i64 (max t e), .bool (decide (e ≤ max t e) && decide (max t e ≤ l))]) ∧ Below w.heap.size w w' := by
  have hb0 : Below w.heap.size w (w.alloc (.cells #[.int .i64 e, .int .i64 l, .int .i64 x, .int .i64 y] 48)) := (Below.refl _ _).alloc (Nat.le_refl _) _
  go_enter Try.func23, Try.ntmps23
  go_wp2_with fail
  refine (inB_any _ _ _ _).mono ?_
  rintro r w1 ⟨rfl, hb1⟩
  have hE := hb0.trans (hb1.mono hb0.size)
  clear hb1 hb0
  go_wp2
  refine bodyPost_ret (v := .tuple #[.int .i64 _, .bool _]) (by simp [results, Try.results23, go_sem]; exact ⟨rfl, rfl⟩) rfl ?_
  exact ⟨rfl, hE⟩

theorem Wait_any (e l t : Int) (w : World) :
    Calls Try.prog 11 #[.agg #[.int .i64 e, .int .i64 l], .int .i64 t] w fun r w' => r = .returned (.tuple #[.int .i64 (waitV e l t), .bool (waitB e l t)]) ∧ Below w.heap.size w w' := by
  have hT0 : At ((w.alloc (.cells #[.int .i64 e, .int .i64 l] 23)).alloc (.cells #[.int .i64 t] 3)) (w.heap.size + 1) 3 #[.int .i64 t] := At.new_ _ _ _ (by simp)
  have hb0 : Below w.heap.size w ((w.alloc (.cells #[.int .i64 e, .int .i64 l] 23)).alloc (.cells #[.int .i64 t] 3)) := ((Below.refl _ _).alloc (Nat.le_refl _) _).alloc (by simp) _
  go_enter Try.func11, Try.ntmps11
  go_wp2_with fail
  generalize ((w.alloc (.cells #[.int .i64 e, .int .i64 l] 23)).alloc (.cells #[.int .i64 t] 3)) = w0 at *
  refine (ifMayInt _ _ _ _ (max t e) (decide (e ≤ max t e) && decide (max t e ≤ l)) _ in_Wait1 (fun _ w1 hb1 => Wait1_any _ _ _ _ t _ w1 (hT0.keep hb1 hT0.inside).inside (by simpa using (hT0.keep hb1 hT0.inside).cell 0))).mono ?_
  rintro r w1 ⟨rfl, hb1⟩
  have hE := hb0.trans (hb1.mono hb0.size)
  clear hb1 hb0 hT0
  go_wp2
  refine bodyPost_ret (v := .tuple #[.int .i64 _, .bool _]) (by simp [results, Try.results11, go_sem]; exact ⟨rfl, rfl⟩) rfl ?_
  exact ⟨rfl, hE⟩

end Go.Proofs.Ytljpcicahhfkpaa.Window

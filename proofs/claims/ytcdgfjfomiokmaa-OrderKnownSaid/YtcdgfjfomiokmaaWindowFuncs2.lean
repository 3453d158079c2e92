/-
  Contracts of package window's calls Shift and Meet.
-/
import Derived.Test.YtcdgfjfomiokmaaWindowFuncs
import Derived.Test.YtcdgfjfomiokmaaTail
namespace Go.Proofs.Ytcdgfjfomiokmaa.Window
open Go.RowKit Go.Sort
open Go.Proofs.Ytcdgfjfomiokmaa.Mem Go.Proofs.Ytcdgfjfomiokmaa.Tail
set_option linter.unusedVariables false

theorem in_Meet1 : ∀ args w, (callFunc 46 args).run Try.prog w = .ok (.enter 46 args) w := fun args w => enters Try.func46 (by kernel_rfl) rfl args w
theorem in_Meet11 : ∀ args w, (callFunc 47 args).run Try.prog w = .ok (.enter 47 args) w := fun args w => enters Try.func47 (by kernel_rfl) rfl args w


theorem wrap64_in {n : Int} (h1 : -9223372036854775808 ≤ n) (h2 : n ≤ 9223372036854775807) : wrap64 n = n := by
  unfold wrap64
  omega

theorem shift_wrap (e l d n : Int) (hn : n = e ∨ n = l) : orNil (okB e l && (decide (-e ≤ d) && decide (d ≤ 1048576 - l))) (wrap64 (n + d)) = orNil (shiftB e l d) (n + d) := by
  cases h : shiftB e l d
  · simp only [shiftB] at h
    rw [h]
    rfl
  · have h2 := (shiftB_iff e l d).1 h
    simp only [shiftB] at h
    rw [h, wrap64_in (by omega) (by omega)]


theorem Meet11_any (a b c d x y : Int) (g : Nat) (w : World) (hg : g < w.heap.size) (h0 : w.cell? ⟨g, 0, none⟩ = some (.int .i64 a)) (h1 : w.cell? ⟨g, 1, none⟩ = some (.int .i64 b)) :
    Calls Try.prog 47 #[.agg #[.int .i64 c, .int .i64 d, .int .i64 x, .int .i64 y], .pointer (some ⟨g, 0, none⟩)] w fun r w' => r = .returned (.tuple #[.agg #[.int .i64 (max a c), .int .i64 (min b d)], .bool (decide (max a c ≤ min b d))]) ∧ Below w.heap.size w w' := by
  have hR0 : At (((w.alloc (.cells #[.int .i64 c, .int .i64 d, .int .i64 x, .int .i64 y] 75)).alloc (.cells #[.int .i64 0, .int .i64 0] 25)).alloc (.cells #[.int .i64 (max a c), .int .i64 (min b d)] 25)) (w.heap.size + 1) 25 #[.int .i64 0, .int .i64 0] := (At.new_ _ _ _ (by simp)).alloc _
  have hM0 : At (((w.alloc (.cells #[.int .i64 c, .int .i64 d, .int .i64 x, .int .i64 y] 75)).alloc (.cells #[.int .i64 0, .int .i64 0] 25)).alloc (.cells #[.int .i64 (max a c), .int .i64 (min b d)] 25)) (w.heap.size + 1 + 1) 25 #[.int .i64 (max a c), .int .i64 (min b d)] := At.new_ _ _ _ (by simp)
  have hb0 : Below w.heap.size w (((w.alloc (.cells #[.int .i64 c, .int .i64 d, .int .i64 x, .int .i64 y] 75)).alloc (.cells #[.int .i64 0, .int .i64 0] 25)).alloc (.cells #[.int .i64 (max a c), .int .i64 (min b d)] 25)) := by
    repeat (first | exact Below.refl _ _ | refine Below.alloc ?_ (by simp <;> omega) _)
  go_enter Try.func47, Try.ntmps47
  go_wp2_with fail
  clear h0 h1
  generalize (((w.alloc (.cells #[.int .i64 c, .int .i64 d, .int .i64 x, .int .i64 y] 75)).alloc (.cells #[.int .i64 0, .int .i64 0] 25)).alloc (.cells #[.int .i64 (max a c), .int .i64 (min b d)] 25)) = w0 at *
  have s0 := hM0.cell 0
  have s1 := hM0.cell 1
  have r0 := hR0.cell 0
  have r1 := hR0.cell 1
  simp at s0 s1 r0 r1
  have fr0 := hR0.free 0
  have fr1 := hR0.free 1
  clear hR0 hM0
  go_region
  all_goals
    go_wp2
    refine bodyPost_ret (res_wb rfl rfl rfl (b := .bool (decide (max a c ≤ min b d))) (x := .int .i64 (max a c)) (y := .int .i64 (min b d)) (by go_simp) (by go_simp)) rfl ?_
    exact ⟨rfl, by repeat (first | exact hb0 | refine Below.setCell ?_ (by simp <;> omega) _ | exact below_drewN hb0 _ | refine Below.drew ?_)⟩

theorem Meet1_any (a b c d x y : Int) (g : Nat) (w : World) (hg : g < w.heap.size) (h0 : w.cell? ⟨g, 0, none⟩ = some (.int .i64 c)) (h1 : w.cell? ⟨g, 1, none⟩ = some (.int .i64 d)) :
    Calls Try.prog 46 #[.agg #[.int .i64 a, .int .i64 b, .int .i64 x, .int .i64 y], .pointer (some ⟨g, 0, none⟩)] w fun r w' => r = .returned (.tuple #[.agg #[.int .i64 (orNil (okB c d && decide (max a c ≤ min b d)) (max a c)), .int .i64 (orNil (okB c d && decide (max a c ≤ min b d)) (min b d))], .bool (okB c d && decide (max a c ≤ min b d))]) ∧ Below w.heap.size w w' := by
  have hS0 : At ((w.alloc (.cells #[.int .i64 a, .int .i64 b, .int .i64 x, .int .i64 y] 75)).alloc (.cells #[.int .i64 0, .int .i64 0] 25)) w.heap.size 75 #[.int .i64 a, .int .i64 b, .int .i64 x, .int .i64 y] := (At.new w _ _).alloc _
  have hR0 : At ((w.alloc (.cells #[.int .i64 a, .int .i64 b, .int .i64 x, .int .i64 y] 75)).alloc (.cells #[.int .i64 0, .int .i64 0] 25)) (w.heap.size + 1) 25 #[.int .i64 0, .int .i64 0] := At.new_ _ _ _ (by simp)
  have hb0 : Below w.heap.size w ((w.alloc (.cells #[.int .i64 a, .int .i64 b, .int .i64 x, .int .i64 y] 75)).alloc (.cells #[.int .i64 0, .int .i64 0] 25)) := ((Below.refl _ _).alloc (Nat.le_refl _) _).alloc (by simp) _
  go_enter Try.func46, Try.ntmps46
  go_wp2_with fail
  clear h0 h1
  generalize ((w.alloc (.cells #[.int .i64 a, .int .i64 b, .int .i64 x, .int .i64 y] 75)).alloc (.cells #[.int .i64 0, .int .i64 0] 25)) = w0 at *
  refine (ifMayWindow _ _ _ _ (max a c) (min b d) (decide (max a c ≤ min b d)) _ in_Meet11 (fun _ w1 hb1 => Meet11_any a b c d _ _ _ w1 (hS0.keep hb1 hS0.inside).inside (by simpa using (hS0.keep hb1 hS0.inside).cell 0) (by simpa using (hS0.keep hb1 hS0.inside).cell 1))).mono ?_
  rintro r w1 ⟨rfl, hb1⟩
  have hE := hb0.trans (hb1.mono hb0.size)
  have hR := hR0.keep hb1 hR0.inside
  clear hb1 hb0 hS0 hR0
  have r0 := hR.cell 0
  have r1 := hR.cell 1
  simp at r0 r1
  have fr0 := hR.free 0
  have fr1 := hR.free 1
  go_wp2
  refine bodyPost_ret (res_wb rfl rfl rfl (b := .bool (okB c d && decide (max a c ≤ min b d))) (x := .int .i64 (orNil (okB c d && decide (max a c ≤ min b d)) (max a c))) (y := .int .i64 (orNil (okB c d && decide (max a c ≤ min b d)) (min b d))) (by go_simp) (by go_simp)) rfl ?_
  exact ⟨rfl, by repeat (first | exact hE | refine Below.setCell ?_ (by simp <;> omega) _)⟩

theorem meet_nil (p q : Bool) (v : Int) (r : Bool) : orNil (p && (q && r)) (orNil (q && r) v) = orNil ((p && q) && r) v := by
  cases p <;> cases q <;> cases r <;> rfl
theorem meet_and (p q r : Bool) : (p && (q && r)) = ((p && q) && r) := by
  cases p <;> cases q <;> cases r <;> rfl

theorem Meet_any (a b c d : Int) (w : World) :
    Calls Try.prog 43 #[.agg #[.int .i64 a, .int .i64 b], .agg #[.int .i64 c, .int .i64 d]] w fun r w' => r = .returned (.tuple #[.agg #[.int .i64 (meetE a b c d), .int .i64 (meetL a b c d)], .bool (meetB a b c d)]) ∧ Below w.heap.size w w' := by
  have hT0 : At (((w.alloc (.cells #[.int .i64 a, .int .i64 b] 25)).alloc (.cells #[.int .i64 c, .int .i64 d] 25)).alloc (.cells #[.int .i64 0, .int .i64 0] 25)) (w.heap.size + 1) 25 #[.int .i64 c, .int .i64 d] := (At.new_ _ _ _ (by simp)).alloc _
  have hR0 : At (((w.alloc (.cells #[.int .i64 a, .int .i64 b] 25)).alloc (.cells #[.int .i64 c, .int .i64 d] 25)).alloc (.cells #[.int .i64 0, .int .i64 0] 25)) (w.heap.size + 1 + 1) 25 #[.int .i64 0, .int .i64 0] := At.new_ _ _ _ (by simp)
  have hb0 : Below w.heap.size w (((w.alloc (.cells #[.int .i64 a, .int .i64 b] 25)).alloc (.cells #[.int .i64 c, .int .i64 d] 25)).alloc (.cells #[.int .i64 0, .int .i64 0] 25)) := by
    repeat (first | exact Below.refl _ _ | refine Below.alloc ?_ (by simp <;> omega) _)
  go_enter Try.func43, Try.ntmps43
  go_wp2_with fail
  generalize (((w.alloc (.cells #[.int .i64 a, .int .i64 b] 25)).alloc (.cells #[.int .i64 c, .int .i64 d] 25)).alloc (.cells #[.int .i64 0, .int .i64 0] 25)) = w0 at *
  refine (ifMayWindow _ _ _ _ (orNil (okB c d && decide (max a c ≤ min b d)) (max a c)) (orNil (okB c d && decide (max a c ≤ min b d)) (min b d)) (okB c d && decide (max a c ≤ min b d)) _ in_Meet1 (fun _ w1 hb1 => Meet1_any a b c d _ _ _ w1 (hT0.keep hb1 hT0.inside).inside (by simpa using (hT0.keep hb1 hT0.inside).cell 0) (by simpa using (hT0.keep hb1 hT0.inside).cell 1))).mono ?_
  rintro r w1 ⟨rfl, hb1⟩
  have hE := hb0.trans (hb1.mono hb0.size)
  have hR := hR0.keep hb1 hR0.inside
  clear hb1 hb0 hT0 hR0
  rw [meet_nil, meet_nil, meet_and]
  have r0 := hR.cell 0
  have r1 := hR.cell 1
  simp at r0 r1
  have fr0 := hR.free 0
  have fr1 := hR.free 1
  go_wp2
  refine bodyPost_ret (res_wb rfl rfl rfl (b := .bool (meetB a b c d)) (x := .int .i64 (meetE a b c d)) (y := .int .i64 (meetL a b c d)) (by go_simp; rfl) (by go_simp; rfl)) rfl ?_
  exact ⟨rfl, by repeat (first | exact hE | refine Below.setCell ?_ (by simp <;> omega) _)⟩

end Go.Proofs.Ytcdgfjfomiokmaa.Window

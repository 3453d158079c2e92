/-
  The chapter's examples of window: 'works' returns true.
-/
import Derived.Test.YtljpcicahhfkpaaWindowRef
namespace Go.Proofs.Ytljpcicahhfkpaa.Window
open Go.RowKit Go.Sort
open Go.Proofs.Ytljpcicahhfkpaa.Mem Go.Proofs.Ytljpcicahhfkpaa.Tail
set_option linter.unusedVariables false

theorem res_w {fn : Func} {p : Tmp} (h : fn.results = #[.cell p 23]) {tmps : Array Value} {w : World} {g : Nat} {x y : Value} (hp : tmps.getD p undef = .pointer (some ⟨g, 0, none⟩))
    (c0 : w.cell? ⟨g, 0, none⟩ = some x) (c1 : w.cell? ⟨g, 1, none⟩ = some y) : (results fn tmps).run Try.prog w = .ok (.agg #[x, y]) w := by
  have hp' : tmps[p]?.getD undef = .pointer (some ⟨g, 0, none⟩) := by simpa using hp
  simp only [results, h]
  go_simp

theorem span_ex (x y : Int) (w : World) :
    Calls Try.prog 18 #[.int .i64 x, .int .i64 y] w fun e w' => e = .returned (.agg #[.int .i64 x, .int .i64 y]) ∧ w.alloc (.cells #[.int .i64 x, .int .i64 y] 23) = w' := by
  go_enter Try.func18, Try.ntmps18
  go_wp2
  refine bodyPost_ret (res_w rfl rfl (x := .int .i64 x) (y := .int .i64 y) (by go_simp) (by go_simp)) rfl ?_
  exact ⟨rfl, rfl⟩

theorem span_any (x y : Int) (w : World) :
    Calls Try.prog 18 #[.int .i64 x, .int .i64 y] w fun e w' => e = .returned (.agg #[.int .i64 x, .int .i64 y]) ∧ Below w.heap.size w w' :=
  (span_ex x y w).mono fun r w' ⟨h1, h2⟩ => ⟨h1, by subst h2; exact (Below.refl _ _).alloc (Nat.le_refl _) _⟩

set_option maxRecDepth 100000 in
set_option maxHeartbeats 4000000 in
theorem works_any (w : World) : Calls Try.prog 17 #[] w fun e w' => e = .returned (.bool true) ∧ Below w.heap.size w w' := by
  go_enter Try.func17, Try.ntmps17
  go_wp2_with (go_at_call 18; refine (span_ex _ _ _).mono ?_; rintro e w' ⟨rfl, rfl⟩)
  trace "T"
  refine (Meet_any _ _ _ _ _).mono ?_
  rintro e w1 ⟨rfl, hb1⟩
  rw [show meetE 3 8 5 20 = 5 from rfl, show meetL 3 8 5 20 = 8 from rfl, show meetB 3 8 5 20 = true from rfl]
  have hB1 : Below w.heap.size w w1 := (((Below.refl _ w).alloc (Nat.le_refl _) _).alloc (by simp) _).trans (hb1.mono (by simp; omega))
  have hs1 := hB1.size
  clear hb1
  have hA1 : At (((w1.alloc (.cells #[.int .i64 5, .int .i64 8] 23)).alloc (.cells #[.int .i64 3, .int .i64 4] 23)).alloc (.cells #[.int .i64 5, .int .i64 6] 23)) w1.heap.size 23 #[.int .i64 5, .int .i64 8] := ((At.new w1 _ _).alloc _).alloc _
  have hB1' : Below w.heap.size w (((w1.alloc (.cells #[.int .i64 5, .int .i64 8] 23)).alloc (.cells #[.int .i64 3, .int .i64 4] 23)).alloc (.cells #[.int .i64 5, .int .i64 6] 23)) := by
    repeat (first | exact hB1 | refine Below.alloc ?_ (by first | omega | (simp; omega)) _)
  go_wp2_with (go_at_call 18; refine (span_ex _ _ _).mono ?_; rintro e w' ⟨rfl, rfl⟩)
  generalize (((w1.alloc (.cells #[.int .i64 5, .int .i64 8] 23)).alloc (.cells #[.int .i64 3, .int .i64 4] 23)).alloc (.cells #[.int .i64 5, .int .i64 6] 23)) = v1 at *
  generalize w1.heap.size = g1 at *
  trace "T"
  refine (Meet_any _ _ _ _ _).mono ?_
  rintro e w2 ⟨rfl, hb2⟩
  rw [show meetE 3 4 5 6 = 0 from rfl, show meetL 3 4 5 6 = 0 from rfl, show meetB 3 4 5 6 = false from rfl]
  have hB2 := hB1'.trans (hb2.mono hB1'.size)
  have hA2 := hA1.keep hb2 hA1.inside
  have hs2 := hB2.size
  clear hb2 hA1 hB1 hB1'
  have hA2' := ((hA2.alloc (.cells #[.int .i64 0, .int .i64 0] 23)).alloc (.cells #[.int .i64 3, .int .i64 8] 23)).alloc (.cells #[.int .i64 3, .int .i64 8] 23)
  have hW2 : At (((w2.alloc (.cells #[.int .i64 0, .int .i64 0] 23)).alloc (.cells #[.int .i64 3, .int .i64 8] 23)).alloc (.cells #[.int .i64 3, .int .i64 8] 23)) (w2.heap.size + 1 + 1) 23 #[.int .i64 3, .int .i64 8] := At.new_ _ _ _ (by simp)
  have hB2' : Below w.heap.size w (((w2.alloc (.cells #[.int .i64 0, .int .i64 0] 23)).alloc (.cells #[.int .i64 3, .int .i64 8] 23)).alloc (.cells #[.int .i64 3, .int .i64 8] 23)) := by
    repeat (first | exact hB2 | refine Below.alloc ?_ (by first | omega | (simp; omega)) _)
  go_wp2_with (go_at_call 18; refine (span_ex _ _ _).mono ?_; rintro e w' ⟨rfl, rfl⟩)
  generalize (((w2.alloc (.cells #[.int .i64 0, .int .i64 0] 23)).alloc (.cells #[.int .i64 3, .int .i64 8] 23)).alloc (.cells #[.int .i64 3, .int .i64 8] 23)) = v2 at *
  generalize w2.heap.size + 1 + 1 = g2 at *
  clear hA2 hB2 hs2 hs1
  trace "T"
  refine (Wait_any _ _ _ _).mono ?_
  rintro e w3 ⟨rfl, hb3⟩
  rw [show waitV 3 8 1 = 3 from rfl, show waitB 3 8 1 = true from rfl]
  have hB3 := hB2'.trans (hb3.mono hB2'.size)
  have hA3 := hA2'.keep hb3 hA2'.inside
  have hW3 := hW2.keep hb3 hW2.inside
  clear hb3 hA2' hB2' hW2 v2
  have c0 := hW3.cell 0
  have c1 := hW3.cell 1
  simp at c0 c1
  go_wp2_with fail
  trace "T"
  refine (Wait_any _ _ _ _).mono ?_
  rintro e w4 ⟨rfl, hb4⟩
  rw [show waitV 3 8 8 = 8 from rfl, show waitB 3 8 8 = true from rfl]
  have hB4 := hB3.trans (hb4.mono hB3.size)
  have hA4 := hA3.keep hb4 hA3.inside
  have hW4 := hW3.keep hb4 hW3.inside
  clear hb4 hA3 hB3 hW3 c0 c1 w3
  have c0 := hW4.cell 0
  have c1 := hW4.cell 1
  simp at c0 c1
  go_wp2_with fail
  trace "T"
  refine (Wait_any _ _ _ _).mono ?_
  rintro e w5 ⟨rfl, hb5⟩
  rw [show waitV 3 8 9 = 0 from rfl, show waitB 3 8 9 = false from rfl]
  have hB5 := hB4.trans (hb5.mono hB4.size)
  have hA5 := hA4.keep hb5 hA4.inside
  have hW5 := hW4.keep hb5 hW4.inside
  clear hb5 hA4 hB4 hW4 c0 c1 w4
  have c0 := hW5.cell 0
  have c1 := hW5.cell 1
  simp at c0 c1
  go_wp2_with fail
  trace "T"
  refine (Shift_any _ _ _ _).mono ?_
  rintro e w6 ⟨rfl, hb6⟩
  rw [show shiftE 3 8 (-3) = 0 from rfl, show shiftL 3 8 (-3) = 5 from rfl, show shiftB 3 8 (-3) = true from rfl]
  have hB6 := hB5.trans (hb6.mono hB5.size)
  have hA6 := hA5.keep hb6 hA5.inside
  have hW6 := hW5.keep hb6 hW5.inside
  clear hb6 hA5 hB5 hW5 c0 c1 w5
  have hA6' := hA6.alloc (.cells #[.int .i64 0, .int .i64 5] 23)
  have hW6' := hW6.alloc (.cells #[.int .i64 0, .int .i64 5] 23)
  have hD6 := At.new w6 23 #[.int .i64 0, .int .i64 5]
  have hB6' := hB6.alloc hB6.size (.cells #[.int .i64 0, .int .i64 5] 23)
  have c0 := hW6'.cell 0
  have c1 := hW6'.cell 1
  simp at c0 c1
  go_wp2_with fail
  generalize (w6.alloc (.cells #[.int .i64 0, .int .i64 5] 23)) = v6 at *
  generalize w6.heap.size = g3 at *
  trace "T"
  refine (Shift_any _ _ _ _).mono ?_
  rintro e w7 ⟨rfl, hb7⟩
  rw [show shiftE 3 8 (-4) = 0 from rfl, show shiftL 3 8 (-4) = 0 from rfl, show shiftB 3 8 (-4) = false from rfl]
  have hB7 := hB6'.trans (hb7.mono hB6'.size)
  have hA7 := hA6'.keep hb7 hA6'.inside
  have hW7 := hW6'.keep hb7 hW6'.inside
  have hD7 := hD6.keep hb7 hD6.inside
  clear hb7 hA6 hB6 hW6 hA6' hB6' hW6' hD6 c0 c1 v6
  have hA8 := hA7.alloc (.cells #[.int .i64 0, .int .i64 0] 23)
  have hW8 := hW7.alloc (.cells #[.int .i64 0, .int .i64 0] 23)
  have hD8 := hD7.alloc (.cells #[.int .i64 0, .int .i64 0] 23)
  have hB8 := hB7.alloc hB7.size (.cells #[.int .i64 0, .int .i64 0] 23)
  go_wp2_with fail
  generalize (w7.alloc (.cells #[.int .i64 0, .int .i64 0] 23)) = v7 at *
  clear hA7 hW7 hD7 hB7
  have a0 := hA8.cell 0
  have a1 := hA8.cell 1
  have c0 := hW8.cell 0
  have c1 := hW8.cell 1
  have d0 := hD8.cell 0
  have d1 := hD8.cell 1
  simp at a0 a1 c0 c1 d0 d1
  have ka0 := cell_regrown a0
  have ka1 := cell_regrown a1
  have kc0 := cell_regrown c0
  have kc1 := cell_regrown c1
  have kd0 := cell_regrown d0
  have kd1 := cell_regrown d1
  have cS := fun (x y : Int) d os => Calls.regrown_of (span_any x y (grow (redrawn v7 d) os))
  have cH3 := fun d os => Calls.regrown_of (show Calls Try.prog 15 #[.agg #[.int .i64 3, .int .i64 8], .int .i64 3] (grow (redrawn v7 d) os) fun r w' => r = .returned (.bool true) ∧ Below _ _ w' from Has_any 3 8 3 (grow (redrawn v7 d) os))
  have cH8 := fun d os => Calls.regrown_of (show Calls Try.prog 15 #[.agg #[.int .i64 3, .int .i64 8], .int .i64 8] (grow (redrawn v7 d) os) fun r w' => r = .returned (.bool true) ∧ Below _ _ w' from Has_any 3 8 8 (grow (redrawn v7 d) os))
  have cH9 := fun d os => Calls.regrown_of (show Calls Try.prog 15 #[.agg #[.int .i64 3, .int .i64 8], .int .i64 9] (grow (redrawn v7 d) os) fun r w' => r = .returned (.bool false) ∧ Below _ _ w' from Has_any 3 8 9 (grow (redrawn v7 d) os))
  trace "T9"
  refine wp_region_quiet_below (by kernel_rfl) (by kernel_rfl) ?_
  repeat (go_big_quiet_step (first | with_reducible exact cS _ _ _ _ | with_reducible exact cH3 _ _ | with_reducible exact cH8 _ _ | with_reducible exact cH9 _ _))
  trace "T10"
  refine wpQuiet_nil ?_
  intro _ hw'
  obtain ⟨⟨dq, osq⟩, hw''⟩ := hw'
  subst hw''
  have hE := hB8.trans ((below_regrown v7 dq osq).mono hB8.size)
  clear cS cH3 cH8 cH9 ka0 ka1 kc0 kc1 kd0 kd1 hB8
  go_wp2
  go_ret
  exact ⟨rfl, hE⟩

end Go.Proofs.Ytljpcicahhfkpaa.Window

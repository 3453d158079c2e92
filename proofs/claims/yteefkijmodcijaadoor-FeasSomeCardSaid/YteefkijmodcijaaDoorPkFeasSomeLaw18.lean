import Derived.Test.YteefkijmodcijaaDoorRows
import Derived.Test.YteefkijmodcijaaDoorPkFeasSomeLaw1
import Derived.WalkKit
import Derived.WalkSpells
import Derived.ProofKit
import Derived.Outline
import Derived.Deep.QuietTactic
import Derived.BigQuiet
import Derived.Lib.QuietBelow
import Derived.StillTailTactics
import Derived.WalkLawsBesides
import Derived.Lib.Hide
import Derived.Lib.MinMax
import Derived.Deep.RegionHeld3
import Derived.BigRegion

/-
  Contracts of package place's small functions, and of those that answer the same by definition.
-/
namespace Go.Proofs.YteefkijmodcijaaDoor.Place
open Go.RowKit
set_option linter.unusedVariables false

theorem ret_int {k : IntKind} {a b : Int} (h : a = b) : Ending.returned (.int k a) = .returned (.int k b) := by rw [h]
theorem ret_bool {a b : Bool} (h : a = b) : Ending.returned (.bool a) = .returned (.bool b) := by rw [h]
theorem ret_place {k : IntKind} {a b c d : Int} (h : a = b) (h2 : c = d) : Ending.returned (.agg #[.int k a, .int k c]) = .returned (.agg #[.int k b, .int k d]) := by rw [h, h2]

theorem below_drewN {B : Nat} {a w : World} (h : Below B a w) (n : Nat) : Below B a (w.drewN n) := ⟨h.os, h.tape, h.output, h.size, h.block⟩

theorem side_of {n : Int} (h : 0 ≤ n) : decide (n < 1024) = sideB n := by simp [sideB, h]
theorem side_no {n : Int} (h : n < 0) : false = sideB n := ((sideB_no n).2 (.inl h)).symm
theorem may_no1 {x y : Int} (h : sideB x = false) : mayB (x, y) = false := by simp [mayB, h]
theorem may_yes1 {x y : Int} (h : sideB x = true) : mayB (x, y) = sideB y := by simp [mayB, h]
theorem gap_lt {a b : Int} (h : a < b) : gap a b = b - a := by simp [gap, h]
theorem gap_ge {a b : Int} (h : ¬ a < b) : gap a b = a - b := by simp [gap, h]

theorem gap_side {a b : Int} (ha : 0 ≤ a ∧ a < 1024) (hb : 0 ≤ b ∧ b < 1024) : 0 ≤ gap a b ∧ gap a b < 1024 := by unfold gap; split <;> omega

theorem onSide_any (n : Int) (w : World) :
    Calls Tryd.prog 87 #[.int .i64 n] w fun e w' => e = .returned (.bool (sideB n)) ∧ w = w' := by
  by_cases h1 : 0 ≤ n
  · go_enter Tryd.func87, Tryd.ntmps87
    go_wp2
    go_ret
    exact ⟨ret_bool (side_of (by omega)), rfl⟩
  · go_enter Tryd.func87, Tryd.ntmps87
    go_wp2
    go_ret
    exact ⟨ret_bool (side_no (by omega)), rfl⟩

theorem May_any (x y : Int) (w : World) :
    Calls Tryd.prog 66 #[.agg #[.int .i64 x, .int .i64 y]] w fun e w' => e = .returned (.bool (mayB (x, y))) ∧ Below w.heap.size w w' := by
  cases h1 : sideB x
  · have hm := Lib.hid (may_no1 (y := y) h1)
    go_enter Tryd.func66, Tryd.ntmps66
    go_wp2_with (go_at_call 87; refine (onSide_any _ _).mono ?_; rintro e w' ⟨rfl, rfl⟩; rw [h1])
    go_ret
    exact ⟨ret_bool hm.out.symm, (Below.refl _ _).alloc (Nat.le_refl _) _⟩
  · have hm := Lib.hid (may_yes1 (y := y) h1)
    go_enter Tryd.func66, Tryd.ntmps66
    go_wp2_with fail
    refine (onSide_any _ _).mono ?_
    rintro e w' ⟨rfl, rfl⟩
    rw [h1]
    go_wp2_with fail
    refine (onSide_any _ _).mono ?_
    rintro e w' ⟨rfl, rfl⟩
    go_wp2
    go_ret
    exact ⟨ret_bool hm.out.symm, (Below.refl _ _).alloc (Nat.le_refl _) _⟩

theorem refMay_any (x y : Int) (w : World) :
    Calls Tryd.prog 53 #[.agg #[.int .i64 x, .int .i64 y]] w fun e w' => e = .returned (.bool (mayB (x, y))) ∧ Below w.heap.size w w' := by
  by_cases h1 : 0 ≤ x
  · by_cases h2 : x < 1024
    · by_cases h3 : 0 ≤ y
      · have hm := Lib.hid ((may_yes1 (y := y) ((sideB_iff x).2 ⟨h1, h2⟩)).trans (side_of h3).symm)
        go_enter Tryd.func53, Tryd.ntmps53
        go_wp2
        go_ret
        exact ⟨ret_bool hm.out.symm, (Below.refl _ _).alloc (Nat.le_refl _) _⟩
      · have hm := Lib.hid ((may_yes1 (y := y) ((sideB_iff x).2 ⟨h1, h2⟩)).trans (side_no (by omega)).symm)
        go_enter Tryd.func53, Tryd.ntmps53
        go_wp2
        go_ret
        exact ⟨ret_bool hm.out.symm, (Below.refl _ _).alloc (Nat.le_refl _) _⟩
    · have hm := Lib.hid (may_no1 (y := y) ((sideB_no x).2 (by omega)))
      go_enter Tryd.func53, Tryd.ntmps53
      go_wp2
      go_ret
      exact ⟨ret_bool hm.out.symm, (Below.refl _ _).alloc (Nat.le_refl _) _⟩
  · have hm := Lib.hid (may_no1 (y := y) ((sideB_no x).2 (by omega)))
    go_enter Tryd.func53, Tryd.ntmps53
    go_wp2
    go_ret
    exact ⟨ret_bool hm.out.symm, (Below.refl _ _).alloc (Nat.le_refl _) _⟩

end Go.Proofs.YteefkijmodcijaaDoor.Place

/-
  Contracts of package window's functions.
-/
namespace Go.Proofs.YteefkijmodcijaaDoor.Window
open Go.RowKit
set_option linter.unusedVariables false

theorem ret_int {k : IntKind} {a b : Int} (h : a = b) : Ending.returned (.int k a) = .returned (.int k b) := by rw [h]
theorem ret_bool {a b : Bool} (h : a = b) : Ending.returned (.bool a) = .returned (.bool b) := by rw [h]

theorem below_drewN {B : Nat} {a w : World} (h : Below B a w) (n : Nat) : Below B a (w.drewN n) := ⟨h.os, h.tape, h.output, h.size, h.block⟩

theorem ok_no1 {e l : Int} (h : ¬ 0 ≤ e) : okB e l = false := (okB_no e l).2 (.inl (by omega))
theorem ok_no2 {e l : Int} (h : ¬ e ≤ l) : okB e l = false := (okB_no e l).2 (.inr (.inl (by omega)))
theorem ok_yes2 {e l : Int} (h1 : 0 ≤ e) (h2 : e ≤ l) : okB e l = decide (l ≤ 1048576) := by simp [okB, h1, h2]

theorem May_any (e l : Int) (w : World) :
    Calls Tryd.prog 79 #[.agg #[.int .i64 e, .int .i64 l]] w fun r w' => r = .returned (.bool (okB e l)) ∧ Below w.heap.size w w' := by
  by_cases h1 : 0 ≤ e
  · by_cases h2 : e ≤ l
    · have hm := Lib.hid (ok_yes2 h1 h2)
      go_enter Tryd.func79, Tryd.ntmps79
      go_wp2
      go_ret
      exact ⟨ret_bool hm.out.symm, (Below.refl _ _).alloc (Nat.le_refl _) _⟩
    · have hm := Lib.hid (ok_no2 h2)
      go_enter Tryd.func79, Tryd.ntmps79
      go_wp2
      go_ret
      exact ⟨ret_bool hm.out.symm, (Below.refl _ _).alloc (Nat.le_refl _) _⟩
  · have hm := Lib.hid (ok_no1 (l := l) h1)
    go_enter Tryd.func79, Tryd.ntmps79
    go_wp2
    go_ret
    exact ⟨ret_bool hm.out.symm, (Below.refl _ _).alloc (Nat.le_refl _) _⟩


theorem in_no1 {e l t : Int} (h : ¬ t ≥ e) : (false : Bool) = (decide (e ≤ t) && decide (t ≤ l)) := by simp; omega
theorem in_yes1 {e l t : Int} (h : t ≥ e) : decide (t ≤ l) = (decide (e ≤ t) && decide (t ≤ l)) := by simp; omega

theorem has_any (e l t : Int) (w : World) :
    Calls Tryd.prog 86 #[.agg #[.int .i64 e, .int .i64 l], .int .i64 t] w fun r w' => r = .returned (.bool (decide (e ≤ t) && decide (t ≤ l))) ∧ w.alloc (.cells #[.int .i64 e, .int .i64 l] 161) = w' := by
  by_cases h1 : t ≥ e
  · have hm := Lib.hid (in_yes1 (l := l) h1)
    go_enter Tryd.func86, Tryd.ntmps86
    go_wp2
    go_ret
    exact ⟨ret_bool hm.out, rfl⟩
  · have hm := Lib.hid (in_no1 (l := l) h1)
    go_enter Tryd.func86, Tryd.ntmps86
    go_wp2
    go_ret
    exact ⟨ret_bool hm.out, rfl⟩

end Go.Proofs.YteefkijmodcijaaDoor.Window

/-
  Contracts of package window's 'ifMay', and of what is asked by it.
-/
namespace Go.Proofs.YteefkijmodcijaaDoor.Window
open Go.RowKit
set_option linter.unusedVariables false

theorem ret_ib {k : IntKind} {a b : Int} {c d : Bool} (h : a = b) (h2 : c = d) : Ending.returned (.tuple #[.int k a, .bool c]) = .returned (.tuple #[.int k b, .bool d]) := by rw [h, h2]

theorem ask_no1 {e l : Int} (h : okB e l = false) (v : Int) (b : Bool) : (0 : Int) = orNil (okB e l && b) v := by simp [h, orNil]
theorem ask_no2 {e l : Int} (v : Int) : (0 : Int) = orNil (okB e l && false) v := by simp [orNil]
theorem ask_yes {e l : Int} (h : okB e l = true) (v : Int) : v = orNil (okB e l && true) v := by simp [h, orNil]

theorem i64_wrap {n : Int} (h1 : -9223372036854775808 ≤ n) (h2 : n ≤ 9223372036854775807) : IntKind.i64.wrap n = n := by
  simp [IntKind.wrap, IntKind.bits, IntKind.signed]
  omega

theorem res_span {fn : Func} {p : Tmp} (h : fn.results = #[.cell p 163]) {tmps : Array Value} {w : World} {g : Nat} {x y z u : Value} (hp : tmps.getD p undef = .pointer (some ⟨g, 0, none⟩))
    (c0 : w.cell? ⟨g, 0, none⟩ = some x) (c1 : w.cell? ⟨g, 1, none⟩ = some y) (c2 : w.cell? ⟨g, 2, none⟩ = some z) (c3 : w.cell? ⟨g, 3, none⟩ = some u) : (results fn tmps).run Tryd.prog w = .ok (.agg #[x, y, z, u]) w := by
  have hp' : tmps[p]?.getD undef = .pointer (some ⟨g, 0, none⟩) := by simpa using hp
  simp only [results, h]
  go_simp

theorem spanOf_any (e l : Int) (h : okB e l = true) (w : World) :
    Calls Tryd.prog 96 #[.agg #[.int .i64 e, .int .i64 l]] w fun r w' => r = .returned (.agg #[.int .i64 e, .int .i64 l, .int .i64 (-e), .int .i64 (1048576 - l)]) ∧ Below w.heap.size w w' := by
  rw [okB_iff] at h
  obtain ⟨h1, h2, h3⟩ := h
  go_enter Tryd.func96, Tryd.ntmps96
  go_wp2
  refine bodyPost_ret (res_span rfl rfl (x := .int .i64 e) (y := .int .i64 l) (z := .int .i64 (-e)) (u := .int .i64 (1048576 - l)) (by go_simp) (by go_simp) (by go_simp) (by go_simp)) rfl ?_
  exact ⟨rfl, by repeat (first | exact Below.refl _ _ | refine Below.alloc ?_ (by simp) _ | refine Below.setCell ?_ (by simp <;> omega) _)⟩

/-- A function of the program is entered. -/
theorem enters {f : FuncId} {fn : Func} {c : Code} (hf : Tryd.prog.funcs[f]? = some fn) (hname : (fn.name == "runtime.NumGoroutine") = false) (hb : fn.body = some c) (args : Array Value) (w : World) :
    (callFunc f args).run Tryd.prog w = .ok (.enter f args) w := by
  have h1 : ¬ fn.name = "runtime.NumGoroutine" := by simpa using hname
  simp [callFunc, hf, h1, hb]

theorem ifMayInt (e l : Int) (n : Nat) (c : Value) (v : Int) (b : Bool) (w : World) (hin : ∀ args w, (callFunc n args).run Tryd.prog w = .ok (.enter n args) w)
    (hc : okB e l = true → ∀ w1, Below w.heap.size w w1 → Calls Tryd.prog n #[.agg #[.int .i64 e, .int .i64 l, .int .i64 (-e), .int .i64 (1048576 - l)], c] w1 fun r w' => r = .returned (.tuple #[.int .i64 v, .bool b]) ∧ Below w1.heap.size w1 w') :
    Calls Tryd.prog 84 #[.agg #[.int .i64 e, .int .i64 l], .func (.func n) #[] #[c]] w fun r w' => r = .returned (.tuple #[.int .i64 (orNil (okB e l && b) v), .bool (okB e l && b)]) ∧ Below w.heap.size w w' := by
  have hb0 : Below w.heap.size w (w.alloc (.cells #[.int .i64 e, .int .i64 l] 60)) := (Below.refl _ _).alloc (Nat.le_refl _) _
  cases h1 : okB e l
  · clear hc
    go_enter Tryd.func84, Tryd.ntmps84
    go_wp2_with fail
    refine (May_any _ _ _).mono ?_
    rintro r w1 ⟨rfl, hb1⟩
    rw [h1]
    go_wp2
    refine bodyPost_ret (v := .tuple #[.int .i64 0, .bool false]) (by simp [results, Tryd.results84, go_sem]) rfl ?_
    exact ⟨ret_ib rfl rfl, hb0.trans (hb1.mono hb0.size)⟩
  · have hc' := Lib.hid (hc h1)
    clear hc
    cases b
    · go_enter Tryd.func84, Tryd.ntmps84
      go_wp2_with fail
      refine (May_any _ _ _).mono ?_
      rintro r w1 ⟨rfl, hb1⟩
      rw [h1]
      have c0 := (hb1.cell (p := ⟨w.heap.size, 0, none⟩) (by simp)).trans (show _ = some (.int .i64 e) by go_simp)
      have c1 := (hb1.cell (p := ⟨w.heap.size, 1, none⟩) (by simp)).trans (show _ = some (.int .i64 l) by go_simp)
      have hB1 := hb0.trans (hb1.mono hb0.size)
      clear hb1 hb0
      go_wp2_with fail
      refine (spanOf_any _ _ h1 _).mono ?_
      rintro r w2 ⟨rfl, hb2⟩
      have hB2 := hB1.trans (hb2.mono hB1.size)
      go_wp2_with fail
      refine (hc'.out _ hB2).mono ?_
      rintro r w3 ⟨rfl, hb3⟩
      go_wp2
      refine bodyPost_ret (v := .tuple #[.int .i64 _, .bool _]) (by simp [results, Tryd.results84, go_sem]; exact ⟨rfl, rfl⟩) rfl ?_
      exact ⟨ret_ib rfl rfl, hB2.trans (hb3.mono hB2.size)⟩
    · go_enter Tryd.func84, Tryd.ntmps84
      go_wp2_with fail
      refine (May_any _ _ _).mono ?_
      rintro r w1 ⟨rfl, hb1⟩
      rw [h1]
      have c0 := (hb1.cell (p := ⟨w.heap.size, 0, none⟩) (by simp)).trans (show _ = some (.int .i64 e) by go_simp)
      have c1 := (hb1.cell (p := ⟨w.heap.size, 1, none⟩) (by simp)).trans (show _ = some (.int .i64 l) by go_simp)
      have hB1 := hb0.trans (hb1.mono hb0.size)
      clear hb1 hb0
      go_wp2_with fail
      refine (spanOf_any _ _ h1 _).mono ?_
      rintro r w2 ⟨rfl, hb2⟩
      have hB2 := hB1.trans (hb2.mono hB1.size)
      go_wp2_with fail
      refine (hc'.out _ hB2).mono ?_
      rintro r w3 ⟨rfl, hb3⟩
      go_wp2
      refine bodyPost_ret (v := .tuple #[.int .i64 _, .bool _]) (by simp [results, Tryd.results84, go_sem]; exact ⟨rfl, rfl⟩) rfl ?_
      exact ⟨ret_ib rfl rfl, hB2.trans (hb3.mono hB2.size)⟩

end Go.Proofs.YteefkijmodcijaaDoor.Window

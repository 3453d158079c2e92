import Derived.Test.YthjdacbgcpldjaaDoorPkWindowCalls
import Derived.Deep.RegionHeld3
import Derived.BigRegion

/-
  Contracts of package window's 'ifMay', and of what is asked by it.
-/
namespace Go.Proofs.YthjdacbgcpldjaaDoor.Window
open Go.RowKit
set_option linter.unusedVariables false

theorem ret_ib {k : IntKind} {a b : Int} {c d : Bool} (h : a = b) (h2 : c = d) : Ending.returned (.tuple #[.int k a, .bool c]) = .returned (.tuple #[.int k b, .bool d]) := by rw [h, h2]

theorem ask_no1 {e l : Int} (h : okB e l = false) (v : Int) (b : Bool) : (0 : Int) = orNil (okB e l && b) v := by simp [h, orNil]
theorem ask_no2 {e l : Int} (v : Int) : (0 : Int) = orNil (okB e l && false) v := by simp [orNil]
theorem ask_yes {e l : Int} (h : okB e l = true) (v : Int) : v = orNil (okB e l && true) v := by simp [h, orNil]

theorem i64_wrap {n : Int} (h1 : -9223372036854775808 ≤ n) (h2 : n ≤ 9223372036854775807) : IntKind.i64.wrap n = n := by
  simp [IntKind.wrap, IntKind.bits, IntKind.signed]
  omega

theorem res_span {fn : Func} {p : Tmp} (h : fn.results = #[.cell p 160]) {tmps : Array Value} {w : World} {g : Nat} {x y z u : Value} (hp : tmps.getD p undef = .pointer (some ⟨g, 0, none⟩))
    (c0 : w.cell? ⟨g, 0, none⟩ = some x) (c1 : w.cell? ⟨g, 1, none⟩ = some y) (c2 : w.cell? ⟨g, 2, none⟩ = some z) (c3 : w.cell? ⟨g, 3, none⟩ = some u) : (results fn tmps).run Tryd.prog w = .ok (.agg #[x, y, z, u]) w := by
  have hp' : tmps[p]?.getD undef = .pointer (some ⟨g, 0, none⟩) := by simpa using hp
  simp only [results, h]
  go_simp

theorem spanOf_any (e l : Int) (h : okB e l = true) (w : World) :
    Calls Tryd.prog 106 #[.agg #[.int .i64 e, .int .i64 l]] w fun r w' => r = .returned (.agg #[.int .i64 e, .int .i64 l, .int .i64 (-e), .int .i64 (1048576 - l)]) ∧ Below w.heap.size w w' := by
  rw [okB_iff] at h
  obtain ⟨h1, h2, h3⟩ := h
  go_enter Tryd.func106, Tryd.ntmps106
  go_wp2
  refine bodyPost_ret (res_span rfl rfl (x := .int .i64 e) (y := .int .i64 l) (z := .int .i64 (-e)) (u := .int .i64 (1048576 - l)) (by go_simp) (by go_simp) (by go_simp) (by go_simp)) rfl ?_
  exact ⟨rfl, by repeat (first | exact Below.refl _ _ | refine Below.alloc ?_ (by simp) _ | refine Below.setCell ?_ (by simp <;> omega) _)⟩

/-- A function of the program is entered. -/
theorem enters {f : FuncId} {fn : Func} {c : Code} (hf : Tryd.prog.funcs[f]? = some fn) (hname : (fn.name == "runtime.NumGoroutine") = false) (hb : fn.body = some c) (args : Array Value) (w : World) :
    (callFunc f args).run Tryd.prog w = .ok (.enter f args) w := by
  have h1 : ¬ fn.name = "runtime.NumGoroutine" := by simpa using hname
  simp [callFunc, hf, h1, hb]

theorem ifMayInt (e l : Int) (n : Nat) (c : Value) (v : Int) (b : Bool) (w : World) (hin : ∀ args w, (callFunc n args).run Tryd.prog w = .ok (.enter n args) w)
    (hc : okB e l = true → ∀ w1, Below w.heap.size w w1 → Calls Tryd.prog n #[.agg #[.int .i64 e, .int .i64 l, .int .i64 (-e), .int .i64 (1048576 - l)], c] w1 fun r w' => r = .returned (.tuple #[.int .i64 v, .bool b]) ∧ Below w1.heap.size w1 w') :
    Calls Tryd.prog 91 #[.agg #[.int .i64 e, .int .i64 l], .func (.func n) #[] #[c]] w fun r w' => r = .returned (.tuple #[.int .i64 (orNil (okB e l && b) v), .bool (okB e l && b)]) ∧ Below w.heap.size w w' := by
  have hb0 : Below w.heap.size w (w.alloc (.cells #[.int .i64 e, .int .i64 l] 58)) := (Below.refl _ _).alloc (Nat.le_refl _) _
  cases h1 : okB e l
  · clear hc
    go_enter Tryd.func91, Tryd.ntmps91
    go_wp2_with fail
    refine (May_any _ _ _).mono ?_
    rintro r w1 ⟨rfl, hb1⟩
    rw [h1]
    go_wp2
    refine bodyPost_ret (v := .tuple #[.int .i64 0, .bool false]) (by simp [results, Tryd.results91, go_sem]) rfl ?_
    exact ⟨ret_ib rfl rfl, hb0.trans (hb1.mono hb0.size)⟩
  · have hc' := Lib.hid (hc h1)
    clear hc
    cases b
    · go_enter Tryd.func91, Tryd.ntmps91
      go_wp2_with fail
      refine (May_any _ _ _).mono ?_
      rintro r w1 ⟨rfl, hb1⟩
      rw [h1]
      have c0 := (hb1.cell (p := ⟨w.heap.size, 0, none⟩) (by simp)).trans (show _ = some (.int .i64 e) by go_simp)
      have c1 := (hb1.cell (p := ⟨w.heap.size, 1, none⟩) (by simp)).trans (show _ = some (.int .i64 l) by go_simp)
      have hB1 := hb0.trans (hb1.mono hb0.size)
      clear hb1 hb0
      go_wp2_with fail
      refine (spanOf_any _ _ h1 _).mono ?_
      rintro r w2 ⟨rfl, hb2⟩
      have hB2 := hB1.trans (hb2.mono hB1.size)
      go_wp2_with fail
      refine (hc'.out _ hB2).mono ?_
      rintro r w3 ⟨rfl, hb3⟩
      go_wp2
      refine bodyPost_ret (v := .tuple #[.int .i64 _, .bool _]) (by simp [results, Tryd.results91, go_sem]; exact ⟨rfl, rfl⟩) rfl ?_
      exact ⟨ret_ib rfl rfl, hB2.trans (hb3.mono hB2.size)⟩
    · go_enter Tryd.func91, Tryd.ntmps91
      go_wp2_with fail
      refine (May_any _ _ _).mono ?_
      rintro r w1 ⟨rfl, hb1⟩
      rw [h1]
      have c0 := (hb1.cell (p := ⟨w.heap.size, 0, none⟩) (by simp)).trans (show _ = some (.int .i64 e) by go_simp)
      have c1 := (hb1.cell (p := ⟨w.heap.size, 1, none⟩) (by simp)).trans (show _ = some (.int .i64 l) by go_simp)
      have hB1 := hb0.trans (hb1.mono hb0.size)
      clear hb1 hb0
      go_wp2_with fail
      refine (spanOf_any _ _ h1 _).mono ?_
      rintro r w2 ⟨rfl, hb2⟩
      have hB2 := hB1.trans (hb2.mono hB1.size)
      go_wp2_with fail
      refine (hc'.out _ hB2).mono ?_
      rintro r w3 ⟨rfl, hb3⟩
      go_wp2
      refine bodyPost_ret (v := .tuple #[.int .i64 _, .bool _]) (by simp [results, Tryd.results91, go_sem]; exact ⟨rfl, rfl⟩) rfl ?_
      exact ⟨ret_ib rfl rfl, hB2.trans (hb3.mono hB2.size)⟩

end Go.Proofs.YthjdacbgcpldjaaDoor.Window

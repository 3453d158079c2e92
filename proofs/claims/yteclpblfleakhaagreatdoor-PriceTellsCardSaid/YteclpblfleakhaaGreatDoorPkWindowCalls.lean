import Derived.Test.YteclpblfleakhaaGreatDoorPkPlaceMath
import Derived.WalkLawsBesides
import Derived.WalkSpells
import Derived.ProofKit
import Derived.Test.YteclpblfleakhaaGreatDoorRows
import Derived.BigQuiet
import Derived.Lib.QuietBelow
import Derived.Lib.Hide
import Derived.Deep.RegionHeld3
import Derived.StillTailTactics
import Derived.Lib.MinMax

namespace Go.Proofs.YteclpblfleakhaaGreatDoor.Window
open Go.RowKit
set_option linter.unusedVariables false
theorem ret_int {k : IntKind} {a b : Int} (h : a = b) : Ending.returned (.int k a) = .returned (.int k b) := by rw [h]
theorem ret_bool {a b : Bool} (h : a = b) : Ending.returned (.bool a) = .returned (.bool b) := by rw [h]
theorem below_drewN {B : Nat} {a w : World} (h : Below B a w) (n : Nat) : Below B a (w.drewN n) := ⟨h.os, h.tape, h.output, h.size, h.block⟩
theorem ok_no1 {e l : Int} (h : ¬ 0 ≤ e) : okB e l = false := (okB_no e l).2 (.inl (by omega))
theorem ok_no2 {e l : Int} (h : ¬ e ≤ l) : okB e l = false := (okB_no e l).2 (.inr (.inl (by omega)))
theorem ok_yes2 {e l : Int} (h1 : 0 ≤ e) (h2 : e ≤ l) : okB e l = decide (l ≤ 1048576) := by simp [okB, h1, h2]
theorem May_any (e l : Int) (w : World) :
 Calls Tryz.prog 52 #[.agg #[.int .i64 e, .int .i64 l]] w fun r w' => r = .returned (.bool (okB e l)) ∧ Below w.heap.size w w' := by
 by_cases h1 : 0 ≤ e
 · by_cases h2 : e ≤ l
   · have hm := Lib.hid (ok_yes2 h1 h2)
     go_enter Tryz.func52, Tryz.ntmps52
     go_wp2
     go_ret
     exact ⟨ret_bool hm.out.symm, (Below.refl _ _).alloc (Nat.le_refl _) _⟩
   · have hm := Lib.hid (ok_no2 h2)
     go_enter Tryz.func52, Tryz.ntmps52
     go_wp2
     go_ret
     exact ⟨ret_bool hm.out.symm, (Below.refl _ _).alloc (Nat.le_refl _) _⟩
 · have hm := Lib.hid (ok_no1 (l := l) h1)
   go_enter Tryz.func52, Tryz.ntmps52
   go_wp2
   go_ret
   exact ⟨ret_bool hm.out.symm, (Below.refl _ _).alloc (Nat.le_refl _) _⟩
theorem refMay_any (e l : Int) (w : World) :
 Calls Tryz.prog 102 #[.agg #[.int .i64 e, .int .i64 l]] w fun r w' => r = .returned (.bool (okB e l)) ∧ Below w.heap.size w w' := by
 by_cases h1 : 0 ≤ e
 · by_cases h2 : e ≤ l
   · have hm := Lib.hid (ok_yes2 h1 h2)
     go_enter Tryz.func102, Tryz.ntmps102
     go_wp2
     go_ret
     exact ⟨ret_bool hm.out.symm, (Below.refl _ _).alloc (Nat.le_refl _) _⟩
   · have hm := Lib.hid (ok_no2 h2)
     go_enter Tryz.func102, Tryz.ntmps102
     go_wp2
     go_ret
     exact ⟨ret_bool hm.out.symm, (Below.refl _ _).alloc (Nat.le_refl _) _⟩
 · have hm := Lib.hid (ok_no1 (l := l) h1)
   go_enter Tryz.func102, Tryz.ntmps102
   go_wp2
   go_ret
   exact ⟨ret_bool hm.out.symm, (Below.refl _ _).alloc (Nat.le_refl _) _⟩
theorem in_no1 {e l t : Int} (h : ¬ t ≥ e) : (false : Bool) = (decide (e ≤ t) && decide (t ≤ l)) := by simp; omega
theorem in_yes1 {e l t : Int} (h : t ≥ e) : decide (t ≤ l) = (decide (e ≤ t) && decide (t ≤ l)) := by simp; omega
theorem has_any (e l t : Int) (w : World) :
 Calls Tryz.prog 113 #[.agg #[.int .i64 e, .int .i64 l], .int .i64 t] w fun r w' => r = .returned (.bool (decide (e ≤ t) && decide (t ≤ l))) ∧ w.alloc (.cells #[.int .i64 e, .int .i64 l] 204) = w' := by
 by_cases h1 : t ≥ e
 · have hm := Lib.hid (in_yes1 (l := l) h1)
   go_enter Tryz.func113, Tryz.ntmps113
   go_wp2
   go_ret
   exact ⟨ret_bool hm.out, rfl⟩
 · have hm := Lib.hid (in_no1 (l := l) h1)
   go_enter Tryz.func113, Tryz.ntmps113
   go_wp2
   go_ret
   exact ⟨ret_bool hm.out, rfl⟩
theorem ret_ib {k : IntKind} {a b : Int} {c d : Bool} (h : a = b) (h2 : c = d) : Ending.returned (.tuple #[.int k a, .bool c]) = .returned (.tuple #[.int k b, .bool d]) := by rw [h, h2]
theorem res_span {fn : Func} {p : Tmp} (h : fn.results = #[.cell p 206]) {tmps : Array Value} {w : World} {g : Nat} {x y z u : Value} (hp : tmps.getD p undef = .pointer (some ⟨g, 0, none⟩))
 (c0 : w.cell? ⟨g, 0, none⟩ = some x) (c1 : w.cell? ⟨g, 1, none⟩ = some y) (c2 : w.cell? ⟨g, 2, none⟩ = some z) (c3 : w.cell? ⟨g, 3, none⟩ = some u) : (results fn tmps).run Tryz.prog w = .ok (.agg #[x, y, z, u]) w := by
 have hp' : tmps[p]?.getD undef = .pointer (some ⟨g, 0, none⟩) := by simpa using hp
 simp only [results, h]
 go_simp
theorem spanOf_any (e l : Int) (h : okB e l = true) (w : World) :
 Calls Tryz.prog 123 #[.agg #[.int .i64 e, .int .i64 l]] w fun r w' => r = .returned (.agg #[.int .i64 e, .int .i64 l, .int .i64 (-e), .int .i64 (1048576 - l)]) ∧ Below w.heap.size w w' := by
 rw [okB_iff] at h
 obtain ⟨h1, h2, h3⟩ := h
 go_enter Tryz.func123, Tryz.ntmps123
 go_wp2
 refine bodyPost_ret (res_span rfl rfl (x := .int .i64 e) (y := .int .i64 l) (z := .int .i64 (-e)) (u := .int .i64 (1048576 - l)) (by go_simp) (by go_simp) (by go_simp) (by go_simp)) rfl ?_
 exact ⟨rfl, by repeat (first | exact Below.refl _ _ | refine Below.alloc ?_ (by simp) _ | refine Below.setCell ?_ (by simp <;> omega) _)⟩
theorem enters {f : FuncId} {fn : Func} {c : Code} (hf : Tryz.prog.funcs[f]? = some fn) (hname : (fn.name == "runtime.NumGoroutine") = false) (hb : fn.body = some c) (args : Array Value) (w : World) :
 (callFunc f args).run Tryz.prog w = .ok (.enter f args) w := by
 have h1 : ¬ fn.name = "runtime.NumGoroutine" := by simpa using hname
 simp [callFunc, hf, h1, hb]
theorem ifMayInt (e l : Int) (n : Nat) (c : Value) (v : Int) (b : Bool) (w : World) (hin : ∀ args w, (callFunc n args).run Tryz.prog w = .ok (.enter n args) w)
 (hc : okB e l = true → ∀ w1, Below w.heap.size w w1 → Calls Tryz.prog n #[.agg #[.int .i64 e, .int .i64 l, .int .i64 (-e), .int .i64 (1048576 - l)], c] w1 fun r w' => r = .returned (.tuple #[.int .i64 v, .bool b]) ∧ Below w1.heap.size w1 w') :
 Calls Tryz.prog 111 #[.agg #[.int .i64 e, .int .i64 l], .func (.func n) #[] #[c]] w fun r w' => r = .returned (.tuple #[.int .i64 (orNil (okB e l && b) v), .bool (okB e l && b)]) ∧ Below w.heap.size w w' := by
 have hb0 : Below w.heap.size w (w.alloc (.cells #[.int .i64 e, .int .i64 l] 41)) := (Below.refl _ _).alloc (Nat.le_refl _) _
 cases h1 : okB e l
 · clear hc
   go_enter Tryz.func111, Tryz.ntmps111
   go_wp2_with fail
   refine (May_any _ _ _).mono ?_
   rintro r w1 ⟨rfl, hb1⟩
   rw [h1]
   go_wp2
   refine bodyPost_ret (v := .tuple #[.int .i64 0, .bool false]) (by simp [results, Tryz.results111, go_sem]) rfl ?_
   exact ⟨ret_ib rfl rfl, hb0.trans (hb1.mono hb0.size)⟩
 · have hc' := Lib.hid (hc h1)
   clear hc
   cases b
   · go_enter Tryz.func111, Tryz.ntmps111
     go_wp2_with fail
     refine (May_any _ _ _).mono ?_
     rintro r w1 ⟨rfl, hb1⟩
     rw [h1]
     have c0 := (hb1.cell (p := ⟨w.heap.size, 0, none⟩) (by simp)).trans (show _ = some (.int .i64 e) by go_simp)
     have c1 := (hb1.cell (p := ⟨w.heap.size, 1, none⟩) (by simp)).trans (show _ = some (.int .i64 l) by go_simp)
     have hB1 := hb0.trans (hb1.mono hb0.size)
     clear hb1 hb0
     go_wp2_with fail
     refine (spanOf_any _ _ h1 _).mono ?_
     rintro r w2 ⟨rfl, hb2⟩
     have hB2 := hB1.trans (hb2.mono hB1.size)
     go_wp2_with fail
     refine (hc'.out _ hB2).mono ?_
     rintro r w3 ⟨rfl, hb3⟩
     go_wp2
     refine bodyPost_ret (v := .tuple #[.int .i64 _, .bool _]) (by simp [results, Tryz.results111, go_sem]; exact ⟨rfl, rfl⟩) rfl ?_
     exact ⟨ret_ib rfl rfl, hB2.trans (hb3.mono hB2.size)⟩
   · go_enter Tryz.func111, Tryz.ntmps111
     go_wp2_with fail
     refine (May_any _ _ _).mono ?_
     rintro r w1 ⟨rfl, hb1⟩
     rw [h1]
     have c0 := (hb1.cell (p := ⟨w.heap.size, 0, none⟩) (by simp)).trans (show _ = some (.int .i64 e) by go_simp)
     have c1 := (hb1.cell (p := ⟨w.heap.size, 1, none⟩) (by simp)).trans (show _ = some (.int .i64 l) by go_simp)
     have hB1 := hb0.trans (hb1.mono hb0.size)
     clear hb1 hb0
     go_wp2_with fail
     refine (spanOf_any _ _ h1 _).mono ?_
     rintro r w2 ⟨rfl, hb2⟩
     have hB2 := hB1.trans (hb2.mono hB1.size)
     go_wp2_with fail
     refine (hc'.out _ hB2).mono ?_
     rintro r w3 ⟨rfl, hb3⟩
     go_wp2
     refine bodyPost_ret (v := .tuple #[.int .i64 _, .bool _]) (by simp [results, Tryz.results111, go_sem]; exact ⟨rfl, rfl⟩) rfl ?_
     exact ⟨ret_ib rfl rfl, hB2.trans (hb3.mono hB2.size)⟩
end Go.Proofs.YteclpblfleakhaaGreatDoor.Window

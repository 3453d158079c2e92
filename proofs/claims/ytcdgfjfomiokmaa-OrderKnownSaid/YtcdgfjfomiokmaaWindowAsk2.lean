/-
  The contract of package window's 'ifMay' of windows.
-/
import Derived.Test.YtcdgfjfomiokmaaWindowAsk
import Derived.Test.YtcdgfjfomiokmaaMem
namespace Go.Proofs.Ytcdgfjfomiokmaa.Window
open Go.RowKit Go.Proofs.Ytcdgfjfomiokmaa.Mem
set_option linter.unusedVariables false

theorem res_wb {fn : Func} {p q : Tmp} (h : fn.results = #[.cell p 25, .tmp q]) {tmps : Array Value} {w : World} {g : Nat} {x y b : Value} (hp : tmps.getD p undef = .pointer (some ⟨g, 0, none⟩)) (hq : tmps.getD q undef = b)
    (c0 : w.cell? ⟨g, 0, none⟩ = some x) (c1 : w.cell? ⟨g, 1, none⟩ = some y) : (results fn tmps).run Try.prog w = .ok (.tuple #[.agg #[x, y], b]) w := by
  have hp' : tmps[p]?.getD undef = .pointer (some ⟨g, 0, none⟩) := by simpa using hp
  have hq' : tmps[q]?.getD undef = b := by simpa using hq
  simp only [results, h]
  go_simp

theorem ret_wb {k : IntKind} {a b c d : Int} {f g : Bool} (h : a = b) (h2 : c = d) (h3 : f = g) : Ending.returned (.tuple #[.agg #[.int k a, .int k c], .bool f]) = .returned (.tuple #[.agg #[.int k b, .int k d], .bool g]) := by rw [h, h2, h3]

theorem ifMayWindow (e l : Int) (n : Nat) (c : Value) (v u : Int) (b : Bool) (w : World) (hin : ∀ args w, (callFunc n args).run Try.prog w = .ok (.enter n args) w)
    (hc : okB e l = true → ∀ w1, Below w.heap.size w w1 → Calls Try.prog n #[.agg #[.int .i64 e, .int .i64 l, .int .i64 (-e), .int .i64 (1048576 - l)], c] w1 fun r w' => r = .returned (.tuple #[.agg #[.int .i64 v, .int .i64 u], .bool b]) ∧ Below w1.heap.size w1 w') :
    Calls Try.prog 45 #[.agg #[.int .i64 e, .int .i64 l], .func (.func n) #[] #[c]] w fun r w' => r = .returned (.tuple #[.agg #[.int .i64 (orNil (okB e l && b) v), .int .i64 (orNil (okB e l && b) u)], .bool (okB e l && b)]) ∧ Below w.heap.size w w' := by
  have hP0 : At (((w.alloc (.cells #[.int .i64 e, .int .i64 l] 25)).alloc (.cells #[.int .i64 0, .int .i64 0] 25)).alloc (.cells #[.int .i64 0, .int .i64 0] 25)) w.heap.size 25 #[.int .i64 e, .int .i64 l] := ((At.new w _ _).alloc _).alloc _
  have hR0 : At (((w.alloc (.cells #[.int .i64 e, .int .i64 l] 25)).alloc (.cells #[.int .i64 0, .int .i64 0] 25)).alloc (.cells #[.int .i64 0, .int .i64 0] 25)) (w.heap.size + 1) 25 #[.int .i64 0, .int .i64 0] := (At.new_ _ _ _ (by simp)).alloc _
  have hN0 : At (((w.alloc (.cells #[.int .i64 e, .int .i64 l] 25)).alloc (.cells #[.int .i64 0, .int .i64 0] 25)).alloc (.cells #[.int .i64 0, .int .i64 0] 25)) (w.heap.size + 1 + 1) 25 #[.int .i64 0, .int .i64 0] := At.new_ _ _ _ (by simp)
  have hb0 : Below w.heap.size w (((w.alloc (.cells #[.int .i64 e, .int .i64 l] 25)).alloc (.cells #[.int .i64 0, .int .i64 0] 25)).alloc (.cells #[.int .i64 0, .int .i64 0] 25)) := by
    repeat (first | exact Below.refl _ _ | refine Below.alloc ?_ (by simp <;> omega) _)
  have hc' := Lib.hid hc
  clear hc
  go_enter Try.func45, Try.ntmps45
  go_wp2_with fail
  generalize (((w.alloc (.cells #[.int .i64 e, .int .i64 l] 25)).alloc (.cells #[.int .i64 0, .int .i64 0] 25)).alloc (.cells #[.int .i64 0, .int .i64 0] 25)) = w0 at *
  refine (May_any _ _ _).mono ?_
  rintro r w1 ⟨rfl, hb1⟩
  have hP1 := hP0.keep hb1 hP0.inside
  have hR1 := hR0.keep hb1 hR0.inside
  have hN1 := hN0.keep hb1 hN0.inside
  have hB1 := hb0.trans (hb1.mono hb0.size)
  clear hP0 hR0 hN0 hb0 hb1 w0
  have p0 := hP1.cell 0
  have p1 := hP1.cell 1
  have r0 := hR1.cell 0
  have r1 := hR1.cell 1
  have n0 := hN1.cell 0
  have n1 := hN1.cell 1
  simp at p0 p1 r0 r1 n0 n1
  have fr0 := hR1.free 0
  have fr1 := hR1.free 1
  cases h1 : okB e l
  · go_wp2
    refine bodyPost_ret (res_wb rfl rfl rfl (b := .bool false) (x := .int .i64 0) (y := .int .i64 0) (by go_simp) (by go_simp)) rfl ?_
    exact ⟨ret_wb (by simp [h1, orNil]) (by simp [h1, orNil]) (by simp [h1]), by repeat (first | exact hB1 | refine Below.setCell ?_ (by simp <;> omega) _)⟩
  · go_wp2_with fail
    refine (spanOf_any _ _ h1 _).mono ?_
    rintro r w2 ⟨rfl, hb2⟩
    have hB2 := hB1.trans (hb2.mono hB1.size)
    have hR2 := hR1.keep hb2 hR1.inside
    have hN2 := hN1.keep hb2 hN1.inside
    go_wp2_with fail
    refine (hc'.out h1 _ hB2).mono ?_
    rintro r w3 ⟨rfl, hb3⟩
    have hB3 := hB2.trans (hb3.mono hB2.size)
    have hR3 := hR2.keep hb3 hR2.inside
    have hN3 := hN2.keep hb3 hN2.inside
    have hr3 := hR3.inside
    have hn3 := hN3.inside
    have hs3 := hB3.size
    clear hb2 hb3 hR1 hN1 hR2 hN2 hP1 hc' p0 p1 r0 r1 n0 n1 fr0 fr1 hB1 hB2
    have r0 := hR3.cell 0
    have r1 := hR3.cell 1
    have n0 := hN3.cell 0
    have n1 := hN3.cell 1
    simp at r0 r1 n0 n1
    have fr0 := hR3.free 0
    have fr1 := hR3.free 1
    cases b
    · go_wp2
      refine bodyPost_ret (res_wb rfl rfl rfl (b := .bool false) (x := .int .i64 0) (y := .int .i64 0) (by go_simp) (by go_simp)) rfl ?_
      exact ⟨ret_wb (by simp [h1, orNil]) (by simp [h1, orNil]) (by simp [h1]), by repeat (first | exact hB3 | refine Below.alloc ?_ (by first | omega | (simp; omega)) _ | refine Below.setCell ?_ (by simp <;> omega) _)⟩
    · go_wp2
      refine bodyPost_ret (res_wb rfl rfl rfl (b := .bool true) (x := .int .i64 v) (y := .int .i64 u) (by go_simp) (by go_simp)) rfl ?_
      exact ⟨ret_wb (by simp [h1, orNil]) (by simp [h1, orNil]) (by simp [h1]), by repeat (first | exact hB3 | refine Below.alloc ?_ (by first | omega | (simp; omega)) _ | refine Below.setCell ?_ (by simp <;> omega) _)⟩

end Go.Proofs.Ytcdgfjfomiokmaa.Window

import Derived.Test.YtfoflfeaegfnnaaPkSlackVis

/-
  The contract of a draft's place.
-/
namespace Go.Proofs.Ytfoflfeaegfnnaa.Slack
open Go.RowKit Go.Sort Go.Proofs.Ytfoflfeaegfnnaa.Mem Go.Proofs.Ytfoflfeaegfnnaa.Route Go.Proofs.Ytfoflfeaegfnnaa.When Go.Proofs.Ytfoflfeaegfnnaa.Tail
set_option linter.unusedVariables false

theorem res_pl1 {fn : Func} {p : Tmp} (h : fn.results = #[.cell p 29]) {tmps : Array Value} {w : World} {g : Nat} {x0 x1 : Value} (hp : tmps.getD p undef = .pointer (some ⟨g, 0, none⟩))
    (hA : At w g 29 #[x0, x1]) : (results fn tmps).run Try.prog w = .ok (.agg #[x0, x1]) w := by
  have hp' : tmps[p]?.getD undef = .pointer (some ⟨g, 0, none⟩) := by simpa using hp
  have c0 := hA.cell 0
  have c1 := hA.cell 1
  simp at c0 c1
  simp only [results, h]
  go_simp
set_option maxRecDepth 100000 in
set_option maxHeartbeats 1000000 in
theorem place_any (n : Int) (hn : 0 ≤ n ∧ n < 256) (w : World) :
    Calls Try.prog 15 #[.int .u8 n] w fun e w' => e = .returned (.agg #[.int .i64 (n % 16), .int .i64 (n / 16)]) ∧ Below w.heap.size w w' := by
  obtain ⟨w1, hw1⟩ : ∃ w1, w.alloc (.cells #[.int .i64 0, .int .i64 0] 29) = w1 := ⟨_, rfl⟩
  have hP1 := At.new w 29 #[.int .i64 0, .int .i64 0]
  rw [hw1] at hP1
  have hb0 : Below w.heap.size w w1 := by rw [← hw1]; exact (Below.refl _ _).alloc (Nat.le_refl _) _
  have p0 := hP1.cell 0
  have p1 := hP1.cell 1
  have pf := hP1.free
  simp at p0 p1
  have hw1' := Lib.hid hw1
  have hP := Lib.hid hP1
  have hb := Lib.hid hb0
  have h1 : n.tmod 16 = n % 16 := Int.tmod_eq_emod_of_nonneg hn.1
  have h2 : n.tdiv 16 = n / 16 := Int.tdiv_eq_ediv_of_nonneg hn.1
  clear hw1 hP1 hb0
  go_enter Try.func15, Try.ntmps15
  go_upto_region 1 with fail
  rw [hw1'.out]
  go_wp2
  refine bodyPost_ret (res_pl1 rfl rfl (by exact put2 hP.out)) rfl ?_
  exact ⟨rfl, (hb.out.setCell (by simp) _).setCell (by simp) _⟩

end Go.Proofs.Ytfoflfeaegfnnaa.Slack

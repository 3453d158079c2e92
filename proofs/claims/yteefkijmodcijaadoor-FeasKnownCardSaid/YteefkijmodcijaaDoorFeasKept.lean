/-
  The paces' contracts: as early as can be, and by given times; both are bounded.
-/
import Derived.Test.YteefkijmodcijaaDoorFeasServe
namespace Go.Proofs.YteefkijmodcijaaDoor.Feas
open Go.RowKit Go.Sort Go.Proofs.YteefkijmodcijaaDoor.Mem Go.Proofs.YteefkijmodcijaaDoor.Route Go.Proofs.YteefkijmodcijaaDoor.When Go.Proofs.YteefkijmodcijaaDoor.Load Go.Proofs.YteefkijmodcijaaDoor.Float Go.Proofs.YteefkijmodcijaaDoor.Tail Go.Proofs.YteefkijmodcijaaDoor.Place
set_option linter.unusedVariables false

/-- Who is served leaves at no great time. -/
def PB (P : Pace) : Prop := ∀ (k : Nat) (x : Vi) (n : Int), OkVi x → 0 ≤ n → (P k x n).2 = true → 0 ≤ (P k x n).1 ∧ (P k x n).1 ≤ 2000000
theorem pb_early : PB earlyP := fun k x n h hn hs => by
  simp only [earlyP, decide_eq_true_eq] at hs ⊢
  obtain ⟨h1, h2, h3, h4, h5⟩ := h
  omega
theorem pb_kept (ts : List Tm) : PB (keptP ts) := fun k x n h hn hs => by
  simp only [keptP, keptB, Bool.and_eq_true, decide_eq_true_eq] at hs ⊢
  obtain ⟨h1, h2, h3, h4, h5⟩ := h
  omega

theorem early_pace (L : Nat) (w : World) (B : Nat) : PaceC 38 #[] L w B earlyP := fun w' _ k x m hk hok hm1 hm2 => by
  obtain ⟨h1, h2, h3, h4, h5⟩ := hok
  exact earliest_any k x.px x.py x.we x.wl x.sv m (by omega) (by omega) (by omega) w'

section
variable {x : Vi} {n : Int} {y : Tm}
theorem kept_1 (h : ¬ n ≤ y.ar) : keptB x n y = false := by unfold keptB; simp [h]
theorem kept_2 (h : ¬ y.ar ≤ y.be) : keptB x n y = false := by unfold keptB; simp [h]
theorem kept_3 (h : ¬ x.we ≤ y.be) : keptB x n y = false := by unfold keptB; simp [h]
theorem kept_4 (h : ¬ y.be ≤ x.wl) : keptB x n y = false := by unfold keptB; simp [h]
theorem kept_5 (h1 : n ≤ y.ar) (h2 : y.ar ≤ y.be) (h3 : x.we ≤ y.be) (h4 : y.be ≤ x.wl) : keptB x n y = (y.lv == y.be + x.sv) := by
  unfold keptB
  rw [Bool.eq_iff_iff]
  simp [h1, h2, h3, h4]
end

set_option maxRecDepth 100000 in
set_option maxHeartbeats 4000000 in
theorem kept_any (ts : List Tm) (k : Nat) (x : Vi) (m : Int) (b B : Nat) (vs : Value) (w : World) (hb : At w b 30 #[vs]) (hts : Tms B w vs ts) (hB : B ≤ w.heap.size) (hk : k < ts.length) (hok : OkVi x) (hm : 0 ≤ m) :
    Calls Tryd.prog 58 #[.int .i64 k, .agg #[.int .i64 x.px, .int .i64 x.py, .int .i64 x.we, .int .i64 x.wl, .int .i64 x.sv], .int .i64 m, .pointer (some ⟨b, 0, none⟩)] w fun e w' =>
      e = .returned (.tuple #[.int .i64 (keptP ts k x m).1, .bool (keptP ts k x m).2]) ∧ Below w.heap.size w w' := by
  obtain ⟨xs, N, cap, rfl, hN, hc1, hc2, hx0⟩ := hts.opened
  obtain ⟨y, hy⟩ : ∃ y, ts[k]? = some y := ⟨ts[k], List.getElem?_eq_getElem hk⟩
  have hP1 : (keptP ts k x m).1 = y.lv := by unfold keptP tmAt; rw [hy]; rfl
  have hP2 : (keptP ts k x m).2 = keptB x m y := by unfold keptP tmAt; rw [hy]; rfl
  rw [hP1, hP2]
  obtain ⟨q, hq⟩ : ∃ q, w.heap.size = q := ⟨_, rfl⟩
  obtain ⟨w1, hw1⟩ : ∃ w1, w.alloc (.cells #[.int .i64 x.px, .int .i64 x.py, .int .i64 x.we, .int .i64 x.wl, .int .i64 x.sv] 120) = w1 := ⟨_, rfl⟩
  have hb1 : Below w.heap.size w w1 := by rw [← hw1]; exact (Below.refl _ _).alloc (Nat.le_refl _) _
  have hX : At w1 q 120 #[.int .i64 x.px, .int .i64 x.py, .int .i64 x.we, .int .i64 x.wl, .int .i64 x.sv] := by rw [← hw1]; exact At.new_ _ _ _ hq.symm
  have hb2 := hb.keep hb1 hb.inside
  obtain ⟨g, o, rfl, hg, c0, c1, c2⟩ := (hts.keep hb1 hB).at hy
  have hk1 : k < N := by omega
  have hk2 : (k : Int) < N := by omega
  have hw1' := Lib.hid hw1
  have hq' := Lib.hid hq
  obtain ⟨h1, h2, h3, h4, h5⟩ := hok
  have b0 := hb2.cell 0
  simp at b0
  obtain ⟨w2, hw2⟩ : ∃ w2, w1.alloc (.cells #[.int .i64 y.ar, .int .i64 y.be, .int .i64 y.lv] 40) = w2 := ⟨_, rfl⟩
  have hs1 : w1.heap.size = q + 1 := by rw [← hw1]; simp [hq]
  have hX2 : At w2 q 120 #[.int .i64 x.px, .int .i64 x.py, .int .i64 x.we, .int .i64 x.wl, .int .i64 x.sv] := by rw [← hw2]; exact hX.alloc _
  have hY2 : At w2 (q + 1) 40 #[.int .i64 y.ar, .int .i64 y.be, .int .i64 y.lv] := by rw [← hw2]; exact At.new_ _ _ _ hs1.symm
  have hB2 : Below w.heap.size w w2 := by rw [← hw2]; exact hb1.alloc (by omega) _
  have hw2' := Lib.hid hw2
  have hs1' := Lib.hid hs1
  have a2 := hX2.cell 2
  have a3 := hX2.cell 3
  have a4 := hX2.cell 4
  have y0 := hY2.cell 0
  have y1 := hY2.cell 1
  have y2 := hY2.cell 2
  simp at a2 a3 a4 y0 y1 y2
  clear hP1 hP2 hw1 hq hb hts hB hk hN hx0 hy hb1 hX hb2 hw2 hs1 hX2 hY2
  cases d1 : decide (x.we ≤ y.be) <;> cases d2 : decide (y.be ≤ x.wl) <;> cases d3 : decide (m ≤ y.ar) <;> cases d4 : decide (y.ar ≤ y.be)
  all_goals
    first
      | have hF := Lib.hid (kept_3 (n := m) (of_decide_eq_false d1))
      | have hF := Lib.hid (kept_4 (n := m) (of_decide_eq_false d2))
      | have hF := Lib.hid (kept_1 (x := x) (of_decide_eq_false d3))
      | have hF := Lib.hid (kept_2 (x := x) (n := m) (of_decide_eq_false d4))
      | have hF := Lib.hid (kept_5 (of_decide_eq_true d3) (of_decide_eq_true d4) (of_decide_eq_true d1) (of_decide_eq_true d2))
    first
      | (have e1 := of_decide_eq_true d1; have e2 := of_decide_eq_true d2)
      | skip
    go_enter Tryd.func58, Tryd.ntmps58
    go_upto_region 1 with fail
    simp only [hq'.out]
    rw [hw1'.out]
    go_upto_region 2 with fail
    simp only [hs1'.out]
    rw [hw2'.out]
    go_upto_region 3 with fail
    go_quiet (fail)
    go_wp2
    refine bodyPost_ret (v := .tuple #[.int .i64 _, .bool _]) (by simp [results, Tryd.results58, go_sem]; exact ⟨rfl, rfl⟩) rfl ?_
    exact ⟨ret_nb rfl hF.out.symm, below_drewN hB2 nq⟩

end Go.Proofs.YteefkijmodcijaaDoor.Feas

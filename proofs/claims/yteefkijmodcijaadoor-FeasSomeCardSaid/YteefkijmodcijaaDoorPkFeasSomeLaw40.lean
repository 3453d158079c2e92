import Derived.Test.YteefkijmodcijaaDoorPkFeasSomeLaw23
import Derived.Test.YteefkijmodcijaaDoorPkFeasSomeLaw38
import Derived.Test.YteefkijmodcijaaDoorPkFeasSomeLaw39
import Derived.Test.YteefkijmodcijaaDoorPkFeasSomeLaw22

/-
  What a draft's parts are to package feas; how long a vehicle loiters, as an argument, opened.
-/
namespace Go.Proofs.YteefkijmodcijaaDoor.Feas
open Go.ChangeShapes Go.WideShapes Go.ChangeAt Go.RowKit Go.Proofs.YteefkijmodcijaaDoor.Mem Go.Proofs.YteefkijmodcijaaDoor.Route Go.Proofs.YteefkijmodcijaaDoor.When Go.Proofs.YteefkijmodcijaaDoor.Load
set_option linter.unusedVariables false

theorem Dr.of {v : Vh} {l : List (Int × Int)} {t : List Rq} (hv : v.dr) (hf : Fine l t.length) (hl : l.length ≤ 12) (ht : ∀ q ∈ t, q.dr) : Dr v l t :=
  ⟨hv.1, fun q hq => (ht q hq).1, hf.2.1, by omega, hf.2.2.1⟩
theorem Dr.nums {v : Vh} {l : List (Int × Int)} {t : List Rq} (hf : Fine l t.length) : Nums l := hf.1.nums
theorem Dr.st {v : Vh} {l : List (Int × Int)} {t : List Rq} (h : Dr v l t) : 0 ≤ v.st ∧ v.st ≤ 1048576 := by
  have := h.hv
  unfold Vh.chk at this
  rw [Order.veh_iff] at this
  omega
theorem i8_ends {x : Int} (h : (Lit.int .i8 x).wf = true) : -128 ≤ x ∧ x ≤ 127 := by
  simp [Lit.wf, IntKind.min, IntKind.max, IntKind.bits, IntKind.signed] at h
  omega
section
variable {H : Type} {enc : TypeId × Value → H} {w : World} {base : Nat} {spare : Nat → Bool} {held : Bool}
theorem i8_of {fuel : Nat} {v : Value} {x : DataW H × List MemPlace} (h : DataW.trod enc Tryd.prog w base spare held fuel 25 [v] = some x) : ∃ n : Int, v = .int .i8 n ∧ -128 ≤ n ∧ n < 128 := by
  obtain ⟨n, hn, _, hw⟩ := DataW.trod_int Tryd.underlying25 h
  simp at hn
  have := i8_ends hw
  exact ⟨n, hn, by omega, by omega⟩
theorem cellsI8 : Tryd.prog.cellsOf 25 = 1 := by kernel_rfl
set_option maxRecDepth 100000 in
theorem openPush {r : Reach} {b0 : Nat} {v : Value} {d : DataW H} {p : List MemPlace} (hv : Value.okWide Tryd.prog w r b0 27 v) (h : DataW.Trod enc Tryd.prog w base spare held 27 v d p) :
    ∃ (xb : Option Addr) (Nb cb : Nat) (bs : List Int) (a b k : Int), v = .agg #[.slice xb Nb cb, .int .u8 a, .int .u8 b, .int .i8 k] ∧ RowB w.heap.size w (.slice xb Nb cb) 1 (bs.map byV) ∧ (∀ x ∈ bs, 0 ≤ x ∧ x < 256) ∧ (0 ≤ a ∧ a < 256) ∧ (0 ≤ b ∧ b < 256) ∧ -128 ≤ k ∧ k < 128 := by
  obtain ⟨cs, rfl, hsz⟩ := okWide_struct Tryd.underlying27 hv
  obtain ⟨c0, c1, c2, c3, rfl⟩ := array4D (hsz.trans (by kernel_rfl))
  obtain ⟨fuel, hf⟩ := h
  obtain ⟨_, _, h0⟩ := fieldS (i := 0) Tryd.underlying27 hf rfl
  obtain ⟨_, _, h1⟩ := fieldS (i := 1) Tryd.underlying27 hf rfl
  obtain ⟨_, _, h2⟩ := fieldS (i := 2) Tryd.underlying27 hf rfl
  obtain ⟨_, _, h3⟩ := fieldS (i := 3) Tryd.underlying27 hf rfl
  simp [Value.cells, cellsI8, cellsU8, cellsS8] at h0 h1 h2 h3
  obtain ⟨bs, hb1, hb2⟩ := rows_of (f := byV) (g := fun x => 0 ≤ x ∧ x < 256) Tryd.underlying22 cellsU8 (by decide) (fun n cs y hy hl => by
    obtain ⟨a, rfl⟩ := list1T hl
    obtain ⟨n, rfl, hn⟩ := u8_of hy
    exact ⟨n, rfl, hn⟩) h0
  obtain ⟨a, rfl, ha⟩ := u8_of h1
  obtain ⟨b, rfl, hb⟩ := u8_of h2
  obtain ⟨k, rfl, hk⟩ := i8_of h3
  obtain ⟨xb, cb, rfl, _⟩ := id hb1
  exact ⟨xb, _, cb, bs, a, b, k, rfl, hb1, hb2, ha, hb, hk⟩
end

/-- Pushed times of a drawn route. -/
theorem pushed_any {v : Vh} {l : List (Int × Int)} {t : List Rq} (hD : Dr v l t) (hl : l.length ≤ 12) (xb : Option Addr) (Nb cb : Nat) (bs : List Int) (A Wh M : Int) (vl vt : Value) (w : World) (hb : RowB w.heap.size w (.slice xb Nb cb) 1 (bs.map byV)) (hby : ∀ x ∈ bs, 0 ≤ x ∧ x < 256) (hA : 0 ≤ A ∧ A < 256) (hWh : 0 ≤ Wh ∧ Wh < 256) (hM : -128 ≤ M ∧ M < 128)
    (hL : Row w.heap.size w vl l) (hT : Rqs w.heap.size w vt t) :
    Calls Tryd.prog 13 #[.agg #[.slice xb Nb cb, .int .u8 A, .int .u8 Wh, .int .i8 M], .agg #[.int .i64 v.hx, .int .i64 v.hy, .int .i64 v.cp, .int .i64 v.st, .int .i64 v.en], vl, vt] w fun e w' =>
      (∃ u ts, e = .returned u ∧ Tms w'.heap.size w' u ts ∧ w'.ownsRow w.heap.size 40 3 u ts.length (flatT ts) ∧ ts.length = l.length ∧ ∀ y ∈ ts, TmB y) ∧ Below w.heap.size w w' :=
  (push_any v xb Nb cb bs A Wh M vl vt l t w hb hby hA hWh hM hD.st (by omega) (fun s hs => by
    obtain ⟨x, h1, h2, _⟩ := hD.vis hs
    exact ⟨x, h1, h2⟩) hL hT).mono fun e w' ⟨⟨u, ts, h1, h2, h3, h4⟩, h5⟩ => ⟨⟨u, ts, h1, Tms.of_owns h2 rfl (Nat.le_refl _), h2, h3, h4⟩, h5⟩
end Go.Proofs.YteefkijmodcijaaDoor.Feas

/-
  The paces' contracts: as early as can be, and by given times; both are bounded.
-/
namespace Go.Proofs.YteefkijmodcijaaDoor.Feas
open Go.RowKit Go.Sort Go.Proofs.YteefkijmodcijaaDoor.Mem Go.Proofs.YteefkijmodcijaaDoor.Route Go.Proofs.YteefkijmodcijaaDoor.When Go.Proofs.YteefkijmodcijaaDoor.Load Go.Proofs.YteefkijmodcijaaDoor.Float Go.Proofs.YteefkijmodcijaaDoor.Tail Go.Proofs.YteefkijmodcijaaDoor.Place
set_option linter.unusedVariables false

/-- Who is served leaves at no great time. -/
def PB (P : Pace) : Prop := ∀ (k : Nat) (x : Vi) (n : Int), OkVi x → 0 ≤ n → (P k x n).2 = true → 0 ≤ (P k x n).1 ∧ (P k x n).1 ≤ 2000000
theorem pb_early : PB earlyP := fun k x n h hn hs => by
  simp only [earlyP, decide_eq_true_eq] at hs ⊢
  obtain ⟨h1, h2, h3, h4, h5⟩ := h
  omega
theorem pb_kept (ts : List Tm) : PB (keptP ts) := fun k x n h hn hs => by
  simp only [keptP, keptB, Bool.and_eq_true, decide_eq_true_eq] at hs ⊢
  obtain ⟨h1, h2, h3, h4, h5⟩ := h
  omega

theorem early_pace (L : Nat) (w : World) (B : Nat) : PaceC 38 #[] L w B earlyP := fun w' _ k x m hk hok hm1 hm2 => by
  obtain ⟨h1, h2, h3, h4, h5⟩ := hok
  exact earliest_any k x.px x.py x.we x.wl x.sv m (by omega) (by omega) (by omega) w'

section
variable {x : Vi} {n : Int} {y : Tm}
theorem kept_1 (h : ¬ n ≤ y.ar) : keptB x n y = false := by unfold keptB; simp [h]
theorem kept_2 (h : ¬ y.ar ≤ y.be) : keptB x n y = false := by unfold keptB; simp [h]
theorem kept_3 (h : ¬ x.we ≤ y.be) : keptB x n y = false := by unfold keptB; simp [h]
theorem kept_4 (h : ¬ y.be ≤ x.wl) : keptB x n y = false := by unfold keptB; simp [h]
theorem kept_5 (h1 : n ≤ y.ar) (h2 : y.ar ≤ y.be) (h3 : x.we ≤ y.be) (h4 : y.be ≤ x.wl) : keptB x n y = (y.lv == y.be + x.sv) := by
  unfold keptB
  rw [Bool.eq_iff_iff]
  simp [h1, h2, h3, h4]
end

set_option maxRecDepth 100000 in
set_option maxHeartbeats 4000000 in
theorem kept_any (ts : List Tm) (k : Nat) (x : Vi) (m : Int) (b B : Nat) (vs : Value) (w : World) (hb : At w b 30 #[vs]) (hts : Tms B w vs ts) (hB : B ≤ w.heap.size) (hk : k < ts.length) (hok : OkVi x) (hm : 0 ≤ m) :
    Calls Tryd.prog 58 #[.int .i64 k, .agg #[.int .i64 x.px, .int .i64 x.py, .int .i64 x.we, .int .i64 x.wl, .int .i64 x.sv], .int .i64 m, .pointer (some ⟨b, 0, none⟩)] w fun e w' =>
      e = .returned (.tuple #[.int .i64 (keptP ts k x m).1, .bool (keptP ts k x m).2]) ∧ Below w.heap.size w w' := by
  obtain ⟨xs, N, cap, rfl, hN, hc1, hc2, hx0⟩ := hts.opened
  obtain ⟨y, hy⟩ : ∃ y, ts[k]? = some y := ⟨ts[k], List.getElem?_eq_getElem hk⟩
  have hP1 : (keptP ts k x m).1 = y.lv := by unfold keptP tmAt; rw [hy]; rfl
  have hP2 : (keptP ts k x m).2 = keptB x m y := by unfold keptP tmAt; rw [hy]; rfl
  rw [hP1, hP2]
  obtain ⟨q, hq⟩ : ∃ q, w.heap.size = q := ⟨_, rfl⟩
  obtain ⟨w1, hw1⟩ : ∃ w1, w.alloc (.cells #[.int .i64 x.px, .int .i64 x.py, .int .i64 x.we, .int .i64 x.wl, .int .i64 x.sv] 120) = w1 := ⟨_, rfl⟩
  have hb1 : Below w.heap.size w w1 := by rw [← hw1]; exact (Below.refl _ _).alloc (Nat.le_refl _) _
  have hX : At w1 q 120 #[.int .i64 x.px, .int .i64 x.py, .int .i64 x.we, .int .i64 x.wl, .int .i64 x.sv] := by rw [← hw1]; exact At.new_ _ _ _ hq.symm
  have hb2 := hb.keep hb1 hb.inside
  obtain ⟨g, o, rfl, hg, c0, c1, c2⟩ := (hts.keep hb1 hB).at hy
  have hk1 : k < N := by omega
  have hk2 : (k : Int) < N := by omega
  have hw1' := Lib.hid hw1
  have hq' := Lib.hid hq
  obtain ⟨h1, h2, h3, h4, h5⟩ := hok
  have b0 := hb2.cell 0
  simp at b0
  obtain ⟨w2, hw2⟩ : ∃ w2, w1.alloc (.cells #[.int .i64 y.ar, .int .i64 y.be, .int .i64 y.lv] 40) = w2 := ⟨_, rfl⟩
  have hs1 : w1.heap.size = q + 1 := by rw [← hw1]; simp [hq]
  have hX2 : At w2 q 120 #[.int .i64 x.px, .int .i64 x.py, .int .i64 x.we, .int .i64 x.wl, .int .i64 x.sv] := by rw [← hw2]; exact hX.alloc _
  have hY2 : At w2 (q + 1) 40 #[.int .i64 y.ar, .int .i64 y.be, .int .i64 y.lv] := by rw [← hw2]; exact At.new_ _ _ _ hs1.symm
  have hB2 : Below w.heap.size w w2 := by rw [← hw2]; exact hb1.alloc (by omega) _
  have hw2' := Lib.hid hw2
  have hs1' := Lib.hid hs1
  have a2 := hX2.cell 2
  have a3 := hX2.cell 3
  have a4 := hX2.cell 4
  have y0 := hY2.cell 0
  have y1 := hY2.cell 1
  have y2 := hY2.cell 2
  simp at a2 a3 a4 y0 y1 y2
  clear hP1 hP2 hw1 hq hb hts hB hk hN hx0 hy hb1 hX hb2 hw2 hs1 hX2 hY2
  cases d1 : decide (x.we ≤ y.be) <;> cases d2 : decide (y.be ≤ x.wl) <;> cases d3 : decide (m ≤ y.ar) <;> cases d4 : decide (y.ar ≤ y.be)
  all_goals
    first
      | have hF := Lib.hid (kept_3 (n := m) (of_decide_eq_false d1))
      | have hF := Lib.hid (kept_4 (n := m) (of_decide_eq_false d2))
      | have hF := Lib.hid (kept_1 (x := x) (of_decide_eq_false d3))
      | have hF := Lib.hid (kept_2 (x := x) (n := m) (of_decide_eq_false d4))
      | have hF := Lib.hid (kept_5 (of_decide_eq_true d3) (of_decide_eq_true d4) (of_decide_eq_true d1) (of_decide_eq_true d2))
    first
      | (have e1 := of_decide_eq_true d1; have e2 := of_decide_eq_true d2)
      | skip
    go_enter Tryd.func58, Tryd.ntmps58
    go_upto_region 1 with fail
    simp only [hq'.out]
    rw [hw1'.out]
    go_upto_region 2 with fail
    simp only [hs1'.out]
    rw [hw2'.out]
    go_upto_region 3 with fail
    go_quiet (fail)
    go_wp2
    refine bodyPost_ret (v := .tuple #[.int .i64 _, .bool _]) (by simp [results, Tryd.results58, go_sem]; exact ⟨rfl, rfl⟩) rfl ?_
    exact ⟨ret_nb rfl hF.out.symm, below_drewN hB2 nq⟩

end Go.Proofs.YteefkijmodcijaaDoor.Feas

import Derived.Test.YteefkijmodcijaaDoorPkFeasSomeLaw8
import Derived.Test.YteefkijmodcijaaDoorPkFeasSomeLaw22

/-
  Times that serve a route, and the earliest ones of package sched. No program is spoken of here.
-/
namespace Go.Proofs.YteefkijmodcijaaDoor.Feas
open Go.Proofs.YteefkijmodcijaaDoor.Order Go.Proofs.YteefkijmodcijaaDoor.Place Go.Proofs.YteefkijmodcijaaDoor.Route Go.Proofs.YteefkijmodcijaaDoor.When Go.Proofs.YteefkijmodcijaaDoor.Load Go.Proofs.YteefkijmodcijaaDoor.Window
set_option linter.unusedVariables false

/-- A vehicle, a route, and requests that are drawn. -/
structure Dr (v : Vh) (l : List (Int × Int)) (t : List Rq) : Prop where
  hv : v.chk = 0
  ht : ∀ q ∈ t, q.chk = 0
  hl : isR l = true
  hn : l.length ≤ 16
  hr : InR t l
theorem Dr.vis {v : Vh} {l : List (Int × Int)} {t : List Rq} (h : Dr v l t) {s : Int × Int} (hs : s ∈ l) : ∃ x, visO t s = some x ∧ OkVi x ∧ visV t s = x := by
  obtain ⟨p, q, e⟩ := List.append_of_mem hs
  obtain ⟨⟨h1, h2⟩, h3, _⟩ := stB_iff.1 (route_stB h.hl h.hr e)
  have hi : inT t s.1 = true := by simp [inT, h1, h2]
  obtain ⟨z, hz, _⟩ := inT_get hi
  have : ∃ x, visO t s = some x := by
    rcases h3 with h3 | h3
    · exact ⟨_, visO_pick hi hz h3⟩
    · exact ⟨_, visO_drop hi hz h3⟩
  obtain ⟨x, hx⟩ := this
  exact ⟨x, hx, vis_ok h.ht hx, by simp [visV, hx]⟩
theorem Dr.visL {v : Vh} {l : List (Int × Int)} {t : List Rq} (h : Dr v l t) : ∀ x ∈ visL t l, OkVi x := by
  intro x hx
  obtain ⟨s, hs, rfl⟩ := List.mem_map.1 hx
  obtain ⟨x, _, h2, h3⟩ := h.vis hs
  rw [h3]
  exact h2
theorem Dr.wrong {v : Vh} {l : List (Int × Int)} {t : List Rq} (h : Dr v l t) : wrongV v l t = 0 := by
  unfold wrongV
  rw [if_neg (by have := h.hv; omega), if_neg, if_neg, if_neg]
  · intro e
    obtain ⟨s, hs, e⟩ := List.any_eq_true.1 e
    obtain ⟨x, h1, _⟩ := h.vis hs
    simp [visB, h1] at e
  · rw [Classical.not_not]
    unfold checkV
    rw [if_neg (by have := h.hn; omega), if_pos h.hl]
  · intro e
    obtain ⟨q, hq, e⟩ := List.any_eq_true.1 e
    have := h.ht q hq
    simp [this] at e
theorem Dr.errT {v : Vh} {l : List (Int × Int)} {t : List Rq} (h : Dr v l t) : errT v l t = if okT v l t then 0 else 9 := by
  unfold When.errT
  rw [if_neg (by have := h.wrong; omega)]

theorem wait_ok {x : Vi} (h : OkVi x) (n : Int) : waitB x.we x.wl n = decide (n ≤ x.wl) := by
  obtain ⟨h1, h2, h3, _⟩ := h
  have : okB x.we x.wl = true := by simp [okB]; omega
  unfold waitB hasB
  rw [this, Bool.true_and, Bool.eq_iff_iff]
  simp
  omega
theorem early_sched : ∀ {xs : List Vi} {a : Sp}, (∀ x ∈ xs, OkVi x) → (allB a xs = true → earlyL a xs = some (endA a xs) ∧ earlyT a xs = tmsL (stepsL a xs)) ∧ (allB a xs = false → earlyL a xs = none)
  | [], a, _ => ⟨fun _ => ⟨rfl, rfl⟩, fun h => by simp [allB, stepsL] at h⟩
  | x :: xs, a, hx => by
    have h1 := hx x (List.mem_cons_self ..)
    obtain ⟨i1, i2⟩ := early_sched (xs := xs) (a := goV a x) fun z hz => hx z (List.mem_cons_of_mem _ hz)
    have e : allB a (x :: xs) = (decide (arV a x ≤ x.wl) && allB (goV a x) xs) := by
      unfold allB
      rw [stepsL, List.all_cons]
      rw [show good (a, x) = decide (arV a x ≤ x.wl) from wait_ok h1 _]
    rw [e]
    by_cases hk : arV a x ≤ x.wl
    · have hw : waitV x.we x.wl (arV a x) = max (arV a x) x.we := by
        have hwb : waitB x.we x.wl (arV a x) = true := by rw [wait_ok h1, decide_eq_true hk]
        unfold waitV; rw [hwb, orNil_t]
      have hg : (⟨max (arV a x) x.we + x.sv, x.px, x.py⟩ : Sp) = goV a x := by unfold goV beV; rw [hw]
      have ht : (⟨arV a x, max (arV a x) x.we, max (arV a x) x.we + x.sv⟩ : Tm) = tmV a x := by unfold tmV beV; rw [hw]
      rw [decide_eq_true hk, Bool.true_and, earlyL, if_pos hk, earlyT, hg, ht]
      refine ⟨fun h => ⟨(i1 h).1, ?_⟩, i2⟩
      rw [(i1 h).2]
      rfl
    · rw [decide_eq_false hk, earlyL, if_neg hk]
      exact ⟨(fun h => by cases h), fun _ => rfl⟩

theorem Dr.fault {v : Vh} {l : List (Int × Int)} {t : List Rq} (h : Dr v l t) : (faultV v l t).1 = 0 ↔ boardB v.cp t [] l = true ∧ ∃ b, earlyL (sp0 v) (When.visL t l) = some b ∧ arV b (homeV v) ≤ v.en := by
  rw [fault_zero, look_iff h.hv h.ht h.hl h.hn h.hr]
  simp only [run_early]
theorem Dr.right {v : Vh} {l : List (Int × Int)} {t : List Rq} (h : Dr v l t) {ts : List Tm} : rightB v l t ts = true ↔ ts.length = l.length ∧ boardB v.cp t [] l = true ∧ ∃ b, keptL (sp0 v) (When.visL t l) ts = some b ∧ arV b (homeV v) ≤ v.en := by
  rw [right_iff, look_iff h.hv h.ht h.hl h.hn h.hr]
  constructor
  · rintro ⟨h1, h2, h3⟩
    refine ⟨h1, h2, ?_⟩
    rw [run_kept _ _ _ _ (by simp [When.visL, h1])] at h3
    exact h3
  · rintro ⟨h1, h2, h3⟩
    refine ⟨h1, h2, ?_⟩
    rw [run_kept _ _ _ _ (by simp [When.visL, h1])]
    exact h3
theorem Dr.okT {v : Vh} {l : List (Int × Int)} {t : List Rq} (h : Dr v l t) : okT v l t = true ↔ ∃ b, earlyL (sp0 v) (When.visL t l) = some b ∧ arV b (homeV v) ≤ v.en := by
  obtain ⟨h1, h2⟩ := early_sched (a := sp0 v) h.visL
  unfold When.okT
  cases hb : allB (sp0 v) (When.visL t l)
  · rw [h2 hb]
    exact ⟨(fun e => by cases e), fun e => by obtain ⟨b, e, _⟩ := e; cases e⟩
  · rw [(h1 hb).1, Bool.true_and, decide_eq_true_eq]
    unfold endT
    exact ⟨fun e => ⟨_, rfl, e⟩, fun e => by obtain ⟨b, e, e2⟩ := e; cases e; exact e2⟩

theorem err_fault {v : Vh} {l : List (Int × Int)} {t : List Rq} (h : Dr v l t) (he : errT v l t ≠ 0) : (faultV v l t).1 ≠ 0 := by
  intro e
  have := h.okT.2 (h.fault.1 e).2
  rw [h.errT, this] at he
  exact he rfl
theorem time_row {v : Vh} {l : List (Int × Int)} {t : List Rq} (h : Dr v l t) (he : errT v l t = 0) : timesL v l t = earlyT (sp0 v) (When.visL t l) ∧ ∃ b, earlyL (sp0 v) (When.visL t l) = some b ∧ arV b (homeV v) ≤ v.en := by
  have ho : When.okT v l t = true := by
    rw [h.errT] at he
    cases e : When.okT v l t
    · rw [e] at he; cases he
    · rfl
  refine ⟨?_, h.okT.1 ho⟩
  unfold timesL rowT
  rw [if_pos he]
  unfold When.okT at ho
  rw [Bool.and_eq_true] at ho
  exact ((early_sched (a := sp0 v) h.visL).1 ho.1).2.symm
theorem earlyT_length : ∀ (a : Sp) (xs : List Vi), (earlyT a xs).length = xs.length
  | _, [] => rfl
  | a, x :: xs => by simp [earlyT, earlyT_length]
/-- The earliest times serve a route just if nothing is wrong with it. -/
theorem early_right {v : Vh} {l : List (Int × Int)} {t : List Rq} (h : Dr v l t) (he : errT v l t = 0) : rightB v l t (timesL v l t) = decide ((faultV v l t).1 = 0) := by
  obtain ⟨h1, b, h2, h3⟩ := time_row h he
  rw [Bool.eq_iff_iff, decide_eq_true_eq, h.right, h.fault, h1]
  constructor
  · rintro ⟨_, hb, _⟩; exact ⟨hb, b, h2, h3⟩
  · rintro ⟨hb, _⟩
    exact ⟨by rw [earlyT_length]; simp [When.visL], hb, b, kept_early (fun x hx => (h.visL x hx).2.1) h2, h3⟩
/-- Where any times serve it, nothing is wrong, and the earliest ones are no later. -/
theorem right_some {v : Vh} {l : List (Int × Int)} {t : List Rq} {ts : List Tm} (h : Dr v l t) (hr : rightB v l t ts = true) : (faultV v l t).1 = 0 ∧ errT v l t = 0 ∧ LeL (timesL v l t) ts := by
  obtain ⟨h1, hb, b, h2, h3⟩ := h.right.1 hr
  obtain ⟨b', e1, e2, e3, e4, e5⟩ := early_kept h2 (by simp [When.visL, h1]) (Int.le_refl _) rfl rfl
  have e6 : arV b' (homeV v) ≤ v.en := Int.le_trans (arV_le e2 e3 e4) h3
  have hf : (faultV v l t).1 = 0 := h.fault.2 ⟨hb, b', e1, e6⟩
  have he : errT v l t = 0 := Decidable.byContradiction fun e => err_fault h e hf
  exact ⟨hf, he, by rw [(time_row h he).1]; exact e5⟩
end Go.Proofs.YteefkijmodcijaaDoor.Feas

/-
  The document's place and window of a stop.
-/
namespace Go.Proofs.YteefkijmodcijaaDoor.Feas
open Go.RowKit Go.Sort Go.Proofs.YteefkijmodcijaaDoor.Mem Go.Proofs.YteefkijmodcijaaDoor.Route Go.Proofs.YteefkijmodcijaaDoor.When Go.Proofs.YteefkijmodcijaaDoor.Load Go.Proofs.YteefkijmodcijaaDoor.Place
set_option linter.unusedVariables false

theorem res_win {fn : Func} {p : Tmp} (h : fn.results = #[.cell p 60]) {tmps : Array Value} {w : World} {g : Nat} {x y : Value} (hp : tmps.getD p undef = .pointer (some ⟨g, 0, none⟩))
    (c0 : w.cell? ⟨g, 0, none⟩ = some x) (c1 : w.cell? ⟨g, 1, none⟩ = some y) : (results fn tmps).run Tryd.prog w = .ok (.agg #[x, y]) w := by
  have hp' : tmps[p]?.getD undef = .pointer (some ⟨g, 0, none⟩) := by simpa using hp
  simp only [results, h]
  go_simp

set_option maxHeartbeats 1000000 in
theorem rPlace_any (s1 s2 : Int) (vt : Value) (t : List Rq) (x : Vi) (w : World) (hv : visO t (s1, s2) = some x) (hT : Rqs w.heap.size w vt t) :
    Calls Tryd.prog 28 #[.agg #[.int .i64 s1, .int .i64 s2], vt] w fun e w' => e = .returned (.agg #[.int .i64 x.px, .int .i64 x.py]) ∧ Below w.heap.size w w' := by
  obtain ⟨xt, N, cap, rfl, hN, hc1, hc2, hx0⟩ := hT.opened
  obtain ⟨q, hq, h0, h1, -, hk⟩ := visO_some hv
  simp only at hq h0 h1 hk
  obtain ⟨k, rfl⟩ : ∃ k : Nat, s1 = k := ⟨s1.toNat, by omega⟩
  simp only [Int.toNat_natCast] at hq
  have hk1 : k < N := by omega
  have hk2 : ((k : Int) < N) := by omega
  obtain ⟨b, o, rfl, hb, c0, c1, c2, c3, c4, c5, c6, c7, c8, c9⟩ := hT.at hq
  clear hN hx0 hv hT hq
  rcases hk with ⟨rfl, rfl⟩ | ⟨rfl, rfl⟩
  · go_enter Tryd.func28, Tryd.ntmps28
    go_wp2
    refine bodyPost_ret (res_place rfl rfl (x := .int .i64 q.fx) (y := .int .i64 q.fy) (by go_simp) (by go_simp)) rfl ?_
    exact ⟨rfl, by repeat (first | exact Below.refl _ _ | refine Below.alloc ?_ (by simp <;> omega) _ | refine Below.setCell ?_ (by simp <;> omega) _)⟩
  · go_enter Tryd.func28, Tryd.ntmps28
    go_wp2
    refine bodyPost_ret (res_place rfl rfl (x := .int .i64 q.tx) (y := .int .i64 q.ty) (by go_simp) (by go_simp)) rfl ?_
    exact ⟨rfl, by repeat (first | exact Below.refl _ _ | refine Below.alloc ?_ (by simp <;> omega) _ | refine Below.setCell ?_ (by simp <;> omega) _)⟩

set_option maxHeartbeats 1000000 in
theorem rWindow_any (s1 s2 : Int) (vt : Value) (t : List Rq) (x : Vi) (w : World) (hv : visO t (s1, s2) = some x) (hT : Rqs w.heap.size w vt t) :
    Calls Tryd.prog 30 #[.agg #[.int .i64 s1, .int .i64 s2], vt] w fun e w' => e = .returned (.agg #[.int .i64 x.we, .int .i64 x.wl]) ∧ Below w.heap.size w w' := by
  obtain ⟨xt, N, cap, rfl, hN, hc1, hc2, hx0⟩ := hT.opened
  obtain ⟨q, hq, h0, h1, -, hk⟩ := visO_some hv
  simp only at hq h0 h1 hk
  obtain ⟨k, rfl⟩ : ∃ k : Nat, s1 = k := ⟨s1.toNat, by omega⟩
  simp only [Int.toNat_natCast] at hq
  have hk1 : k < N := by omega
  have hk2 : ((k : Int) < N) := by omega
  obtain ⟨b, o, rfl, hb, c0, c1, c2, c3, c4, c5, c6, c7, c8, c9⟩ := hT.at hq
  clear hN hx0 hv hT hq
  rcases hk with ⟨rfl, rfl⟩ | ⟨rfl, rfl⟩
  · go_enter Tryd.func30, Tryd.ntmps30
    go_wp2
    refine bodyPost_ret (res_win rfl rfl (x := .int .i64 q.pe) (y := .int .i64 q.pl) (by go_simp) (by go_simp)) rfl ?_
    exact ⟨rfl, by repeat (first | exact Below.refl _ _ | refine Below.alloc ?_ (by simp <;> omega) _ | refine Below.setCell ?_ (by simp <;> omega) _)⟩
  · go_enter Tryd.func30, Tryd.ntmps30
    go_wp2
    refine bodyPost_ret (res_win rfl rfl (x := .int .i64 q.de) (y := .int .i64 q.dl) (by go_simp) (by go_simp)) rfl ?_
    exact ⟨rfl, by repeat (first | exact Below.refl _ _ | refine Below.alloc ?_ (by simp <;> omega) _ | refine Below.setCell ?_ (by simp <;> omega) _)⟩

end Go.Proofs.YteefkijmodcijaaDoor.Feas

import Derived.Test.YthjdacbgcpldjaaDoorPkFeasMath
import Derived.Test.YthjdacbgcpldjaaDoorPkFeasTake

/-
  Times that serve a route, and the earliest ones of package sched. No program is spoken of here.
-/
namespace Go.Proofs.YthjdacbgcpldjaaDoor.Feas
open Go.Proofs.YthjdacbgcpldjaaDoor.Order Go.Proofs.YthjdacbgcpldjaaDoor.Place Go.Proofs.YthjdacbgcpldjaaDoor.Route Go.Proofs.YthjdacbgcpldjaaDoor.When Go.Proofs.YthjdacbgcpldjaaDoor.Load Go.Proofs.YthjdacbgcpldjaaDoor.Window
set_option linter.unusedVariables false

/-- A vehicle, a route, and requests that are drawn. -/
structure Dr (v : Vh) (l : List (Int × Int)) (t : List Rq) : Prop where
  hv : v.chk = 0
  ht : ∀ q ∈ t, q.chk = 0
  hl : isR l = true
  hn : l.length ≤ 16
  hr : InR t l
theorem Dr.vis {v : Vh} {l : List (Int × Int)} {t : List Rq} (h : Dr v l t) {s : Int × Int} (hs : s ∈ l) : ∃ x, visO t s = some x ∧ OkVi x ∧ visV t s = x := by
  obtain ⟨p, q, e⟩ := List.append_of_mem hs
  obtain ⟨⟨h1, h2⟩, h3, _⟩ := stB_iff.1 (route_stB h.hl h.hr e)
  have hi : inT t s.1 = true := by simp [inT, h1, h2]
  obtain ⟨z, hz, _⟩ := inT_get hi
  have : ∃ x, visO t s = some x := by
    rcases h3 with h3 | h3
    · exact ⟨_, visO_pick hi hz h3⟩
    · exact ⟨_, visO_drop hi hz h3⟩
  obtain ⟨x, hx⟩ := this
  exact ⟨x, hx, vis_ok h.ht hx, by simp [visV, hx]⟩
theorem Dr.visL {v : Vh} {l : List (Int × Int)} {t : List Rq} (h : Dr v l t) : ∀ x ∈ visL t l, OkVi x := by
  intro x hx
  obtain ⟨s, hs, rfl⟩ := List.mem_map.1 hx
  obtain ⟨x, _, h2, h3⟩ := h.vis hs
  rw [h3]
  exact h2
theorem Dr.wrong {v : Vh} {l : List (Int × Int)} {t : List Rq} (h : Dr v l t) : wrongV v l t = 0 := by
  unfold wrongV
  rw [if_neg (by have := h.hv; omega), if_neg, if_neg, if_neg]
  · intro e
    obtain ⟨s, hs, e⟩ := List.any_eq_true.1 e
    obtain ⟨x, h1, _⟩ := h.vis hs
    simp [visB, h1] at e
  · rw [Classical.not_not]
    unfold checkV
    rw [if_neg (by have := h.hn; omega), if_pos h.hl]
  · intro e
    obtain ⟨q, hq, e⟩ := List.any_eq_true.1 e
    have := h.ht q hq
    simp [this] at e
theorem Dr.errT {v : Vh} {l : List (Int × Int)} {t : List Rq} (h : Dr v l t) : errT v l t = if okT v l t then 0 else 9 := by
  unfold When.errT
  rw [if_neg (by have := h.wrong; omega)]

theorem wait_ok {x : Vi} (h : OkVi x) (n : Int) : waitB x.we x.wl n = decide (n ≤ x.wl) := by
  obtain ⟨h1, h2, h3, _⟩ := h
  have : okB x.we x.wl = true := by simp [okB]; omega
  unfold waitB hasB
  rw [this, Bool.true_and, Bool.eq_iff_iff]
  simp
  omega
theorem early_sched : ∀ {xs : List Vi} {a : Sp}, (∀ x ∈ xs, OkVi x) → (allB a xs = true → earlyL a xs = some (endA a xs) ∧ earlyT a xs = tmsL (stepsL a xs)) ∧ (allB a xs = false → earlyL a xs = none)
  | [], a, _ => ⟨fun _ => ⟨rfl, rfl⟩, fun h => by simp [allB, stepsL] at h⟩
  | x :: xs, a, hx => by
    have h1 := hx x (List.mem_cons_self ..)
    obtain ⟨i1, i2⟩ := early_sched (xs := xs) (a := goV a x) fun z hz => hx z (List.mem_cons_of_mem _ hz)
    have e : allB a (x :: xs) = (decide (arV a x ≤ x.wl) && allB (goV a x) xs) := by
      unfold allB
      rw [stepsL, List.all_cons]
      rw [show good (a, x) = decide (arV a x ≤ x.wl) from wait_ok h1 _]
    rw [e]
    by_cases hk : arV a x ≤ x.wl
    · have hw : waitV x.we x.wl (arV a x) = max (arV a x) x.we := by
        have hwb : waitB x.we x.wl (arV a x) = true := by rw [wait_ok h1, decide_eq_true hk]
        unfold waitV; rw [hwb, orNil_t]
      have hg : (⟨max (arV a x) x.we + x.sv, x.px, x.py⟩ : Sp) = goV a x := by unfold goV beV; rw [hw]
      have ht : (⟨arV a x, max (arV a x) x.we, max (arV a x) x.we + x.sv⟩ : Tm) = tmV a x := by unfold tmV beV; rw [hw]
      rw [decide_eq_true hk, Bool.true_and, earlyL, if_pos hk, earlyT, hg, ht]
      refine ⟨fun h => ⟨(i1 h).1, ?_⟩, i2⟩
      rw [(i1 h).2]
      rfl
    · rw [decide_eq_false hk, earlyL, if_neg hk]
      exact ⟨(fun h => by cases h), fun _ => rfl⟩

theorem Dr.fault {v : Vh} {l : List (Int × Int)} {t : List Rq} (h : Dr v l t) : (faultV v l t).1 = 0 ↔ boardB v.cp t [] l = true ∧ ∃ b, earlyL (sp0 v) (When.visL t l) = some b ∧ arV b (homeV v) ≤ v.en := by
  rw [fault_zero, look_iff h.hv h.ht h.hl h.hn h.hr]
  simp only [run_early]
theorem Dr.right {v : Vh} {l : List (Int × Int)} {t : List Rq} (h : Dr v l t) {ts : List Tm} : rightB v l t ts = true ↔ ts.length = l.length ∧ boardB v.cp t [] l = true ∧ ∃ b, keptL (sp0 v) (When.visL t l) ts = some b ∧ arV b (homeV v) ≤ v.en := by
  rw [right_iff, look_iff h.hv h.ht h.hl h.hn h.hr]
  constructor
  · rintro ⟨h1, h2, h3⟩
    refine ⟨h1, h2, ?_⟩
    rw [run_kept _ _ _ _ (by simp [When.visL, h1])] at h3
    exact h3
  · rintro ⟨h1, h2, h3⟩
    refine ⟨h1, h2, ?_⟩
    rw [run_kept _ _ _ _ (by simp [When.visL, h1])]
    exact h3
theorem Dr.okT {v : Vh} {l : List (Int × Int)} {t : List Rq} (h : Dr v l t) : okT v l t = true ↔ ∃ b, earlyL (sp0 v) (When.visL t l) = some b ∧ arV b (homeV v) ≤ v.en := by
  obtain ⟨h1, h2⟩ := early_sched (a := sp0 v) h.visL
  unfold When.okT
  cases hb : allB (sp0 v) (When.visL t l)
  · rw [h2 hb]
    exact ⟨(fun e => by cases e), fun e => by obtain ⟨b, e, _⟩ := e; cases e⟩
  · rw [(h1 hb).1, Bool.true_and, decide_eq_true_eq]
    unfold endT
    exact ⟨fun e => ⟨_, rfl, e⟩, fun e => by obtain ⟨b, e, e2⟩ := e; cases e; exact e2⟩

theorem err_fault {v : Vh} {l : List (Int × Int)} {t : List Rq} (h : Dr v l t) (he : errT v l t ≠ 0) : (faultV v l t).1 ≠ 0 := by
  intro e
  have := h.okT.2 (h.fault.1 e).2
  rw [h.errT, this] at he
  exact he rfl
theorem time_row {v : Vh} {l : List (Int × Int)} {t : List Rq} (h : Dr v l t) (he : errT v l t = 0) : timesL v l t = earlyT (sp0 v) (When.visL t l) ∧ ∃ b, earlyL (sp0 v) (When.visL t l) = some b ∧ arV b (homeV v) ≤ v.en := by
  have ho : When.okT v l t = true := by
    rw [h.errT] at he
    cases e : When.okT v l t
    · rw [e] at he; cases he
    · rfl
  refine ⟨?_, h.okT.1 ho⟩
  unfold timesL rowT
  rw [if_pos he]
  unfold When.okT at ho
  rw [Bool.and_eq_true] at ho
  exact ((early_sched (a := sp0 v) h.visL).1 ho.1).2.symm
theorem earlyT_length : ∀ (a : Sp) (xs : List Vi), (earlyT a xs).length = xs.length
  | _, [] => rfl
  | a, x :: xs => by simp [earlyT, earlyT_length]
/-- The earliest times serve a route just if nothing is wrong with it. -/
theorem early_right {v : Vh} {l : List (Int × Int)} {t : List Rq} (h : Dr v l t) (he : errT v l t = 0) : rightB v l t (timesL v l t) = decide ((faultV v l t).1 = 0) := by
  obtain ⟨h1, b, h2, h3⟩ := time_row h he
  rw [Bool.eq_iff_iff, decide_eq_true_eq, h.right, h.fault, h1]
  constructor
  · rintro ⟨_, hb, _⟩; exact ⟨hb, b, h2, h3⟩
  · rintro ⟨hb, _⟩
    exact ⟨by rw [earlyT_length]; simp [When.visL], hb, b, kept_early (fun x hx => (h.visL x hx).2.1) h2, h3⟩
/-- Where any times serve it, nothing is wrong, and the earliest ones are no later. -/
theorem right_some {v : Vh} {l : List (Int × Int)} {t : List Rq} {ts : List Tm} (h : Dr v l t) (hr : rightB v l t ts = true) : (faultV v l t).1 = 0 ∧ errT v l t = 0 ∧ LeL (timesL v l t) ts := by
  obtain ⟨h1, hb, b, h2, h3⟩ := h.right.1 hr
  obtain ⟨b', e1, e2, e3, e4, e5⟩ := early_kept h2 (by simp [When.visL, h1]) (Int.le_refl _) rfl rfl
  have e6 : arV b' (homeV v) ≤ v.en := Int.le_trans (arV_le e2 e3 e4) h3
  have hf : (faultV v l t).1 = 0 := h.fault.2 ⟨hb, b', e1, e6⟩
  have he : errT v l t = 0 := Decidable.byContradiction fun e => err_fault h e hf
  exact ⟨hf, he, by rw [(time_row h he).1]; exact e5⟩
end Go.Proofs.YthjdacbgcpldjaaDoor.Feas

/-
  What is left of a route without one request: served by the other stops' times. No program is spoken of here.
-/
namespace Go.Proofs.YthjdacbgcpldjaaDoor.Feas
open Go.Proofs.YthjdacbgcpldjaaDoor.Order Go.Proofs.YthjdacbgcpldjaaDoor.Place Go.Proofs.YthjdacbgcpldjaaDoor.Route Go.Proofs.YthjdacbgcpldjaaDoor.When Go.Proofs.YthjdacbgcpldjaaDoor.Load Go.Proofs.YthjdacbgcpldjaaDoor.Window
set_option linter.unusedVariables false

/-- Whoever is at a' can be anywhere no later than one at a. -/
def Later (a a' : Sp) : Prop := ∀ p : Int × Int, mayB p = true → a'.now + distV (a'.px, a'.py) p ≤ a.now + distV (a.px, a.py) p
theorem dist_tri {a b c : Int × Int} (ha : mayB a = true) (hb : mayB b = true) (hc : mayB c = true) : distV a c ≤ distV a b + distV b c := by
  unfold distV
  rw [ha, hb, hc]
  simp only [Bool.and_self, if_true]
  unfold gap
  repeat' split
  all_goals omega
/-- The other stops' times. -/
def restL (r : Int) : List (Int × Int) → List Tm → List Tm
  | s :: l, y :: ts => if s.1 = r then restL r l ts else y :: restL r l ts
  | _, _ => []
theorem restL_length (r : Int) : ∀ (l : List (Int × Int)) (ts : List Tm), ts.length = l.length → (restL r l ts).length = (woL r l).length
  | [], [], _ => rfl
  | s :: l, y :: ts, h => by
    have ih := restL_length r l ts (by simpa using h)
    by_cases hs : s.1 = r
    · simp [restL, hs, woL] at ih ⊢; exact ih
    · simp [restL, hs, woL] at ih ⊢; exact ih
  | [], _ :: _, h => by simp at h
  | _ :: _, [], h => by simp at h
theorem restL_snoc (r : Int) : ∀ {l : List (Int × Int)} {ts : List Tm} (s : Int × Int) (y : Tm), ts.length = l.length → restL r (l ++ [s]) (ts ++ [y]) = if s.1 = r then restL r l ts else restL r l ts ++ [y]
  | [], [], s, y, _ => by by_cases h : s.1 = r <;> simp [restL, h]
  | x :: l, z :: ts, s, y, h => by
    have ih := restL_snoc r (l := l) (ts := ts) s y (by simpa using h)
    by_cases hx : x.1 = r
    · simp only [List.cons_append, restL, if_pos hx]; exact ih
    · simp only [List.cons_append, restL, if_neg hx, ih]
      by_cases hs : s.1 = r
      · simp [hs]
      · simp [hs]
  | [], _ :: _, _, _, h => by simp at h
  | _ :: _, [], _, _, h => by simp at h
theorem wo_cons_own {r : Int} {s : Int × Int} {l : List (Int × Int)} (h : s.1 = r) : woL r (s :: l) = woL r l := by simp [woL, h]
theorem wo_cons_other {r : Int} {s : Int × Int} {l : List (Int × Int)} (h : s.1 ≠ r) : woL r (s :: l) = s :: woL r l := by simp [woL, h]
def MayV (x : Vi) : Prop := mayB (x.px, x.py) = true ∧ 0 ≤ x.sv
theorem later_skip {a a' : Sp} {x : Vi} {n : Int} (ha : mayB (a.px, a.py) = true) (hx : MayV x) (h : Later a a') (hn : arV a x ≤ n) : Later ⟨n, x.px, x.py⟩ a' := by
  intro p hp
  have h1 := h p hp
  have h2 := dist_tri ha hx.1 hp
  unfold arV at hn
  show a'.now + distV (a'.px, a'.py) p ≤ n + distV (x.px, x.py) p
  omega
theorem later_same {n n' : Int} {x : Vi} (h : n' ≤ n) : Later ⟨n, x.px, x.py⟩ ⟨n', x.px, x.py⟩ := by
  intro p _
  show n' + distV (x.px, x.py) p ≤ n + distV (x.px, x.py) p
  omega
theorem later_at {a a' : Sp} {x : Vi} (h : Later a a') (hx : MayV x) : arV a' x ≤ arV a x := h _ hx.1
theorem kept_less {g : Int × Int → Vi} {r : Int} : ∀ {l : List (Int × Int)} {ts : List Tm} {a a' b : Sp}, (∀ s ∈ l, MayV (g s)) → mayB (a.px, a.py) = true → keptL a (l.map g) ts = some b → Later a a' → ∃ b', keptL a' ((woL r l).map g) (restL r l ts) = some b' ∧ Later b b'
  | [], ts, a, a', b, _, _, h, hL => by
    simp [keptL] at h
    subst h
    exact ⟨a', by simp [woL, keptL], hL⟩
  | s :: l, [], _, _, _, _, _, h, _ => by simp [keptL] at h
  | s :: l, y :: ts, a, a', b, hm, ha, h, hL => by
    have hx := hm s (List.mem_cons_self ..)
    have hr := fun z hz => hm z (List.mem_cons_of_mem s hz)
    rw [List.map_cons, keptL] at h
    split at h
    · rename_i hk
      obtain ⟨k1, k2, ⟨k3, k4⟩, k5⟩ := keptB_iff.1 hk
      have hsv := hx.2
      by_cases hs : s.1 = r
      · rw [wo_cons_own hs, restL, if_pos hs]
        exact kept_less hr hx.1 h (later_skip ha hx hL (by omega))
      · rw [wo_cons_other hs, restL, if_neg hs, List.map_cons, keptL, if_pos (keptB_iff.2 ⟨by have := later_at hL hx; omega, k2, ⟨k3, k4⟩, k5⟩)]
        exact kept_less hr hx.1 h (later_same (x := g s) (Int.le_refl _))
    · cases h
theorem early_less {g : Int × Int → Vi} {r : Int} : ∀ {l : List (Int × Int)} {a a' b : Sp}, (∀ s ∈ l, MayV (g s)) → mayB (a.px, a.py) = true → earlyL a (l.map g) = some b → Later a a' → ∃ b', earlyL a' ((woL r l).map g) = some b' ∧ Later b b'
  | [], a, a', b, _, _, h, hL => by
    simp [earlyL] at h
    subst h
    exact ⟨a', by simp [woL, earlyL], hL⟩
  | s :: l, a, a', b, hm, ha, h, hL => by
    have hx := hm s (List.mem_cons_self ..)
    have hr := fun z hz => hm z (List.mem_cons_of_mem s hz)
    rw [List.map_cons, earlyL] at h
    split at h
    · rename_i hk
      have hsv := hx.2
      by_cases hs : s.1 = r
      · rw [wo_cons_own hs]
        exact early_less hr hx.1 h (later_skip ha hx hL (by omega))
      · have hle := later_at hL hx
        rw [wo_cons_other hs, List.map_cons, earlyL, if_pos (by omega)]
        exact early_less hr hx.1 h (later_same (x := g s) (by omega))
    · cases h

/-- What a request has on board behind a part of a route is no less than nothing. -/
theorem acc_wo (t : List Rq) (r : Int) : ∀ l : List (Int × Int), acc t l = acc t (woL r l) + acc t (ofR r l)
  | [] => by simp [woL, ofR, acc]
  | s :: l => by
    have ih := acc_wo t r l
    by_cases hs : s.1 = r
    · rw [wo_cons_own hs, ofR_cons_same hs, acc, acc]; omega
    · rw [wo_cons_other hs, ofR_cons_other hs, acc, acc]; omega
theorem ld_nonneg {t : List Rq} (ht : ∀ q ∈ t, q.chk = 0) (r : Int) : 0 ≤ ldR t r := by
  unfold ldR
  cases h : t[r.toNat]? with
  | none => exact Int.le_refl _
  | some q => have := (chk_ld ht q (List.mem_of_getElem? h)).1; show 0 ≤ q.ld; omega
theorem acc_own {t : List Rq} (ht : ∀ q ∈ t, q.chk = 0) {r : Int} {p q : List (Int × Int)} (h : ofR r (p ++ q) = [(r, 0), (r, 1)] ∨ ofR r (p ++ q) = []) : 0 ≤ acc t (ofR r p) := by
  have hn := ld_nonneg ht r
  rw [ofR_append] at h
  generalize ofR r p = a at h
  generalize ofR r q = b at h
  match a, h with
  | [], _ => simp [acc]
  | [x], .inl h => simp at h; simp [acc, h.1, stN, sg]; exact hn
  | [x, y], .inl h => simp at h; simp [acc, h.1, h.2.1, stN, sg]; omega
  | x :: y :: z :: a, .inl h => simp at h
  | x :: a, .inr h => simp at h
theorem ofR_route {l : List (Int × Int)} (h : isR l = true) (r : Int) : ofR r l = [(r, 0), (r, 1)] ∨ ofR r l = [] := by
  rcases Decidable.em (∃ s ∈ l, s.1 = r) with ⟨s, hs, rfl⟩ | hn
  · exact .inl (isR_iff.1 h s hs).2
  · exact .inr (noR_ofR.1 (noR_iff.2 fun s hs e => hn ⟨s, hs, e⟩))
theorem board_less {t : List Rq} {c r : Int} (hc : 0 ≤ c) (ht : ∀ q ∈ t, q.chk = 0) : ∀ {l pre : List (Int × Int)}, isR (pre ++ l) = true → boardB c t pre l = true → boardB c t (woL r pre) (woL r l) = true
  | [], _, _, _ => rfl
  | s :: l, pre, hR, h => by
    have e : pre ++ s :: l = (pre ++ [s]) ++ l := by simp
    rw [boardB, Bool.and_eq_true, decide_eq_true_eq] at h
    have ih := board_less (r := r) hc ht (l := l) (pre := pre ++ [s]) (by rw [← e]; exact hR) h.2
    by_cases hs : s.1 = r
    · rw [wo_append, wo_cons_own hs, show woL r ([] : List (Int × Int)) = [] from rfl, List.append_nil] at ih
      rw [wo_cons_own hs]
      exact ih
    · rw [wo_append, wo_cons_other hs, show woL r ([] : List (Int × Int)) = [] from rfl] at ih
      rw [wo_cons_other hs, boardB, Bool.and_eq_true, decide_eq_true_eq]
      refine ⟨?_, ih⟩
      have h1 := acc_wo t r (pre ++ [s])
      have h2 := acc_own ht (p := pre ++ [s]) (q := l) (r := r) (by rw [← e]; exact ofR_route hR r)
      rw [wo_append, wo_cons_other hs, show woL r ([] : List (Int × Int)) = [] from rfl] at h1
      omega
theorem isR_wo {l : List (Int × Int)} (h : isR l = true) (r : Int) : isR (woL r l) = true := by
  rw [isR_iff]
  intro s hs
  have hm : s ∈ l ∧ s.1 ≠ r := by simpa [woL] using hs
  have h1 := isR_iff.1 h s hm.1
  exact ⟨h1.1, by rw [ofR_wo hm.2]; exact h1.2⟩
theorem Dr.less {v : Vh} {l : List (Int × Int)} {t : List Rq} (h : Dr v l t) (r : Int) : Dr v (woL r l) t :=
  ⟨h.hv, h.ht, isR_wo h.hl r, Nat.le_trans (wo_length r l) h.hn, fun s hs => h.hr s (show s ∈ l ∧ s.1 ≠ r by simpa [woL] using hs).1⟩
theorem Dr.may {v : Vh} {l : List (Int × Int)} {t : List Rq} (h : Dr v l t) : ∀ s ∈ l, MayV (visV t s) := by
  intro s hs
  obtain ⟨x, h1, h2, h3⟩ := h.vis hs
  obtain ⟨q, hq, _, _, _, hk⟩ := visO_some h1
  have hc := h.ht q (List.mem_of_getElem? hq)
  unfold Rq.chk at hc
  obtain ⟨⟨c1, c2⟩, _, _, c4, c5⟩ := (Order.chk_iff ..).1 hc
  rw [h3]
  rcases hk with ⟨_, rfl⟩ | ⟨_, rfl⟩
  · exact ⟨c1, c4⟩
  · exact ⟨c2, c4⟩
/-- What serves a route serves what is left of it. -/
theorem less_serves {v : Vh} {l : List (Int × Int)} {t : List Rq} (h : Dr v l t) (r : Int) :
    (∀ ts, rightB v l t ts = true → rightB v (woL r l) t (restL r l ts) = true) ∧ ((faultV v l t).1 = 0 → (faultV v (woL r l) t).1 = 0) := by
  have hv := h.hv
  unfold Vh.chk at hv
  rw [Order.veh_iff] at hv
  obtain ⟨hm, ⟨hc, _⟩, _⟩ := hv
  have hhome : MayV (homeV v) := ⟨hm, Int.le_refl _⟩
  have hs0 : Later (sp0 v) (sp0 v) := fun p _ => Int.le_refl _
  have hbd : boardB v.cp t [] l = true → boardB v.cp t [] (woL r l) = true := fun hb => board_less (r := r) (pre := []) (by omega) h.ht h.hl hb
  constructor
  · intro ts hr
    obtain ⟨h1, hb, b, h2, h3⟩ := h.right.1 hr
    obtain ⟨b', e1, e2⟩ := kept_less (r := r) (a' := sp0 v) h.may hm h2 hs0
    exact (h.less r).right.2 ⟨restL_length r l ts h1, hbd hb, b', e1, by have := later_at e2 hhome; omega⟩
  · intro hr
    obtain ⟨hb, b, h2, h3⟩ := h.fault.1 hr
    obtain ⟨b', e1, e2⟩ := early_less (r := r) (a' := sp0 v) h.may hm h2 hs0
    exact (h.less r).fault.2 ⟨hbd hb, b', e1, by have := later_at e2 hhome; omega⟩
end Go.Proofs.YthjdacbgcpldjaaDoor.Feas

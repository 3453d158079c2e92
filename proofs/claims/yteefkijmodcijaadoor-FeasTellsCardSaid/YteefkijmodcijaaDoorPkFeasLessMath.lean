import Derived.Test.YteefkijmodcijaaDoorPkWindowAsk

/-
  What is left of a route without one request: served by the other stops' times. No program is spoken of here.
-/
namespace Go.Proofs.YteefkijmodcijaaDoor.Feas
open Go.Proofs.YteefkijmodcijaaDoor.Order Go.Proofs.YteefkijmodcijaaDoor.Place Go.Proofs.YteefkijmodcijaaDoor.Route Go.Proofs.YteefkijmodcijaaDoor.When Go.Proofs.YteefkijmodcijaaDoor.Load Go.Proofs.YteefkijmodcijaaDoor.Window
set_option linter.unusedVariables false

/-- Whoever is at a' can be anywhere no later than one at a. -/
def Later (a a' : Sp) : Prop := ∀ p : Int × Int, mayB p = true → a'.now + distV (a'.px, a'.py) p ≤ a.now + distV (a.px, a.py) p
theorem dist_tri {a b c : Int × Int} (ha : mayB a = true) (hb : mayB b = true) (hc : mayB c = true) : distV a c ≤ distV a b + distV b c := by
  unfold distV
  rw [ha, hb, hc]
  simp only [Bool.and_self, if_true]
  unfold gap
  repeat' split
  all_goals omega
/-- The other stops' times. -/
def restL (r : Int) : List (Int × Int) → List Tm → List Tm
  | s :: l, y :: ts => if s.1 = r then restL r l ts else y :: restL r l ts
  | _, _ => []
theorem restL_length (r : Int) : ∀ (l : List (Int × Int)) (ts : List Tm), ts.length = l.length → (restL r l ts).length = (woL r l).length
  | [], [], _ => rfl
  | s :: l, y :: ts, h => by
    have ih := restL_length r l ts (by simpa using h)
    by_cases hs : s.1 = r
    · simp [restL, hs, woL] at ih ⊢; exact ih
    · simp [restL, hs, woL] at ih ⊢; exact ih
  | [], _ :: _, h => by simp at h
  | _ :: _, [], h => by simp at h
theorem restL_snoc (r : Int) : ∀ {l : List (Int × Int)} {ts : List Tm} (s : Int × Int) (y : Tm), ts.length = l.length → restL r (l ++ [s]) (ts ++ [y]) = if s.1 = r then restL r l ts else restL r l ts ++ [y]
  | [], [], s, y, _ => by by_cases h : s.1 = r <;> simp [restL, h]
  | x :: l, z :: ts, s, y, h => by
    have ih := restL_snoc r (l := l) (ts := ts) s y (by simpa using h)
    by_cases hx : x.1 = r
    · simp only [List.cons_append, restL, if_pos hx]; exact ih
    · simp only [List.cons_append, restL, if_neg hx, ih]
      by_cases hs : s.1 = r
      · simp [hs]
      · simp [hs]
  | [], _ :: _, _, _, h => by simp at h
  | _ :: _, [], _, _, h => by simp at h
theorem wo_cons_own {r : Int} {s : Int × Int} {l : List (Int × Int)} (h : s.1 = r) : woL r (s :: l) = woL r l := by simp [woL, h]
theorem wo_cons_other {r : Int} {s : Int × Int} {l : List (Int × Int)} (h : s.1 ≠ r) : woL r (s :: l) = s :: woL r l := by simp [woL, h]
def MayV (x : Vi) : Prop := mayB (x.px, x.py) = true ∧ 0 ≤ x.sv
theorem later_skip {a a' : Sp} {x : Vi} {n : Int} (ha : mayB (a.px, a.py) = true) (hx : MayV x) (h : Later a a') (hn : arV a x ≤ n) : Later ⟨n, x.px, x.py⟩ a' := by
  intro p hp
  have h1 := h p hp
  have h2 := dist_tri ha hx.1 hp
  unfold arV at hn
  show a'.now + distV (a'.px, a'.py) p ≤ n + distV (x.px, x.py) p
  omega
theorem later_same {n n' : Int} {x : Vi} (h : n' ≤ n) : Later ⟨n, x.px, x.py⟩ ⟨n', x.px, x.py⟩ := by
  intro p _
  show n' + distV (x.px, x.py) p ≤ n + distV (x.px, x.py) p
  omega
theorem later_at {a a' : Sp} {x : Vi} (h : Later a a') (hx : MayV x) : arV a' x ≤ arV a x := h _ hx.1
theorem kept_less {g : Int × Int → Vi} {r : Int} : ∀ {l : List (Int × Int)} {ts : List Tm} {a a' b : Sp}, (∀ s ∈ l, MayV (g s)) → mayB (a.px, a.py) = true → keptL a (l.map g) ts = some b → Later a a' → ∃ b', keptL a' ((woL r l).map g) (restL r l ts) = some b' ∧ Later b b'
  | [], ts, a, a', b, _, _, h, hL => by
    simp [keptL] at h
    subst h
    exact ⟨a', by simp [woL, keptL], hL⟩
  | s :: l, [], _, _, _, _, _, h, _ => by simp [keptL] at h
  | s :: l, y :: ts, a, a', b, hm, ha, h, hL => by
    have hx := hm s (List.mem_cons_self ..)
    have hr := fun z hz => hm z (List.mem_cons_of_mem s hz)
    rw [List.map_cons, keptL] at h
    split at h
    · rename_i hk
      obtain ⟨k1, k2, ⟨k3, k4⟩, k5⟩ := keptB_iff.1 hk
      have hsv := hx.2
      by_cases hs : s.1 = r
      · rw [wo_cons_own hs, restL, if_pos hs]
        exact kept_less hr hx.1 h (later_skip ha hx hL (by omega))
      · rw [wo_cons_other hs, restL, if_neg hs, List.map_cons, keptL, if_pos (keptB_iff.2 ⟨by have := later_at hL hx; omega, k2, ⟨k3, k4⟩, k5⟩)]
        exact kept_less hr hx.1 h (later_same (x := g s) (Int.le_refl _))
    · cases h
theorem early_less {g : Int × Int → Vi} {r : Int} : ∀ {l : List (Int × Int)} {a a' b : Sp}, (∀ s ∈ l, MayV (g s)) → mayB (a.px, a.py) = true → earlyL a (l.map g) = some b → Later a a' → ∃ b', earlyL a' ((woL r l).map g) = some b' ∧ Later b b'
  | [], a, a', b, _, _, h, hL => by
    simp [earlyL] at h
    subst h
    exact ⟨a', by simp [woL, earlyL], hL⟩
  | s :: l, a, a', b, hm, ha, h, hL => by
    have hx := hm s (List.mem_cons_self ..)
    have hr := fun z hz => hm z (List.mem_cons_of_mem s hz)
    rw [List.map_cons, earlyL] at h
    split at h
    · rename_i hk
      have hsv := hx.2
      by_cases hs : s.1 = r
      · rw [wo_cons_own hs]
        exact early_less hr hx.1 h (later_skip ha hx hL (by omega))
      · have hle := later_at hL hx
        rw [wo_cons_other hs, List.map_cons, earlyL, if_pos (by omega)]
        exact early_less hr hx.1 h (later_same (x := g s) (by omega))
    · cases h

/-- What a request has on board behind a part of a route is no less than nothing. -/
theorem acc_wo (t : List Rq) (r : Int) : ∀ l : List (Int × Int), acc t l = acc t (woL r l) + acc t (ofR r l)
  | [] => by simp [woL, ofR, acc]
  | s :: l => by
    have ih := acc_wo t r l
    by_cases hs : s.1 = r
    · rw [wo_cons_own hs, ofR_cons_same hs, acc, acc]; omega
    · rw [wo_cons_other hs, ofR_cons_other hs, acc, acc]; omega
theorem ld_nonneg {t : List Rq} (ht : ∀ q ∈ t, q.chk = 0) (r : Int) : 0 ≤ ldR t r := by
  unfold ldR
  cases h : t[r.toNat]? with
  | none => exact Int.le_refl _
  | some q => have := (chk_ld ht q (List.mem_of_getElem? h)).1; show 0 ≤ q.ld; omega
theorem acc_own {t : List Rq} (ht : ∀ q ∈ t, q.chk = 0) {r : Int} {p q : List (Int × Int)} (h : ofR r (p ++ q) = [(r, 0), (r, 1)] ∨ ofR r (p ++ q) = []) : 0 ≤ acc t (ofR r p) := by
  have hn := ld_nonneg ht r
  rw [ofR_append] at h
  generalize ofR r p = a at h
  generalize ofR r q = b at h
  match a, h with
  | [], _ => simp [acc]
  | [x], .inl h => simp at h; simp [acc, h.1, stN, sg]; exact hn
  | [x, y], .inl h => simp at h; simp [acc, h.1, h.2.1, stN, sg]; omega
  | x :: y :: z :: a, .inl h => simp at h
  | x :: a, .inr h => simp at h
theorem ofR_route {l : List (Int × Int)} (h : isR l = true) (r : Int) : ofR r l = [(r, 0), (r, 1)] ∨ ofR r l = [] := by
  rcases Decidable.em (∃ s ∈ l, s.1 = r) with ⟨s, hs, rfl⟩ | hn
  · exact .inl (isR_iff.1 h s hs).2
  · exact .inr (noR_ofR.1 (noR_iff.2 fun s hs e => hn ⟨s, hs, e⟩))
theorem board_less {t : List Rq} {c r : Int} (hc : 0 ≤ c) (ht : ∀ q ∈ t, q.chk = 0) : ∀ {l pre : List (Int × Int)}, isR (pre ++ l) = true → boardB c t pre l = true → boardB c t (woL r pre) (woL r l) = true
  | [], _, _, _ => rfl
  | s :: l, pre, hR, h => by
    have e : pre ++ s :: l = (pre ++ [s]) ++ l := by simp
    rw [boardB, Bool.and_eq_true, decide_eq_true_eq] at h
    have ih := board_less (r := r) hc ht (l := l) (pre := pre ++ [s]) (by rw [← e]; exact hR) h.2
    by_cases hs : s.1 = r
    · rw [wo_append, wo_cons_own hs, show woL r ([] : List (Int × Int)) = [] from rfl, List.append_nil] at ih
      rw [wo_cons_own hs]
      exact ih
    · rw [wo_append, wo_cons_other hs, show woL r ([] : List (Int × Int)) = [] from rfl] at ih
      rw [wo_cons_other hs, boardB, Bool.and_eq_true, decide_eq_true_eq]
      refine ⟨?_, ih⟩
      have h1 := acc_wo t r (pre ++ [s])
      have h2 := acc_own ht (p := pre ++ [s]) (q := l) (r := r) (by rw [← e]; exact ofR_route hR r)
      rw [wo_append, wo_cons_other hs, show woL r ([] : List (Int × Int)) = [] from rfl] at h1
      omega
theorem isR_wo {l : List (Int × Int)} (h : isR l = true) (r : Int) : isR (woL r l) = true := by
  rw [isR_iff]
  intro s hs
  have hm : s ∈ l ∧ s.1 ≠ r := by simpa [woL] using hs
  have h1 := isR_iff.1 h s hm.1
  exact ⟨h1.1, by rw [ofR_wo hm.2]; exact h1.2⟩
theorem Dr.less {v : Vh} {l : List (Int × Int)} {t : List Rq} (h : Dr v l t) (r : Int) : Dr v (woL r l) t :=
  ⟨h.hv, h.ht, isR_wo h.hl r, Nat.le_trans (wo_length r l) h.hn, fun s hs => h.hr s (show s ∈ l ∧ s.1 ≠ r by simpa [woL] using hs).1⟩
theorem Dr.may {v : Vh} {l : List (Int × Int)} {t : List Rq} (h : Dr v l t) : ∀ s ∈ l, MayV (visV t s) := by
  intro s hs
  obtain ⟨x, h1, h2, h3⟩ := h.vis hs
  obtain ⟨q, hq, _, _, _, hk⟩ := visO_some h1
  have hc := h.ht q (List.mem_of_getElem? hq)
  unfold Rq.chk at hc
  obtain ⟨⟨c1, c2⟩, _, _, c4, c5⟩ := (Order.chk_iff ..).1 hc
  rw [h3]
  rcases hk with ⟨_, rfl⟩ | ⟨_, rfl⟩
  · exact ⟨c1, c4⟩
  · exact ⟨c2, c4⟩
/-- What serves a route serves what is left of it. -/
theorem less_serves {v : Vh} {l : List (Int × Int)} {t : List Rq} (h : Dr v l t) (r : Int) :
    (∀ ts, rightB v l t ts = true → rightB v (woL r l) t (restL r l ts) = true) ∧ ((faultV v l t).1 = 0 → (faultV v (woL r l) t).1 = 0) := by
  have hv := h.hv
  unfold Vh.chk at hv
  rw [Order.veh_iff] at hv
  obtain ⟨hm, ⟨hc, _⟩, _⟩ := hv
  have hhome : MayV (homeV v) := ⟨hm, Int.le_refl _⟩
  have hs0 : Later (sp0 v) (sp0 v) := fun p _ => Int.le_refl _
  have hbd : boardB v.cp t [] l = true → boardB v.cp t [] (woL r l) = true := fun hb => board_less (r := r) (pre := []) (by omega) h.ht h.hl hb
  constructor
  · intro ts hr
    obtain ⟨h1, hb, b, h2, h3⟩ := h.right.1 hr
    obtain ⟨b', e1, e2⟩ := kept_less (r := r) (a' := sp0 v) h.may hm h2 hs0
    exact (h.less r).right.2 ⟨restL_length r l ts h1, hbd hb, b', e1, by have := later_at e2 hhome; omega⟩
  · intro hr
    obtain ⟨hb, b, h2, h3⟩ := h.fault.1 hr
    obtain ⟨b', e1, e2⟩ := early_less (r := r) (a' := sp0 v) h.may hm h2 hs0
    exact (h.less r).fault.2 ⟨hbd hb, b', e1, by have := later_at e2 hhome; omega⟩
end Go.Proofs.YteefkijmodcijaaDoor.Feas

import Derived.Test.YteefkijmodcijaaDoorPkFeasRefM

/-
  What nothing wrong by any pace says: the document's answer and the program's agree on whether times serve a route. No program is spoken of here.
-/
namespace Go.Proofs.YteefkijmodcijaaDoor.Feas
open Go.Proofs.YteefkijmodcijaaDoor.Order Go.Proofs.YteefkijmodcijaaDoor.Place Go.Proofs.YteefkijmodcijaaDoor.Route Go.Proofs.YteefkijmodcijaaDoor.When Go.Proofs.YteefkijmodcijaaDoor.Load
set_option linter.unusedVariables false

theorem Std.own {t : List Rq} {l : List (Int × Int)} (h : Std t l) (r : Int) : ofR r l = [] ∨ ofR r l = [(r, 0)] ∨ ofR r l = [(r, 0), (r, 1)] := by
  induction l using snoc_ind with
  | h0 => exact .inl rfl
  | h1 l s ih =>
    obtain ⟨h1, h2⟩ := h.init
    obtain ⟨_, h3, h4⟩ := stB_iff.1 h2
    have i := ih h1
    obtain ⟨s1, s2⟩ := s
    simp only at h3 h4
    rw [ofR_append]
    by_cases hr : s1 = r
    · subst hr
      rw [ofR_cons_same (s := (s1, s2)) rfl]
      unfold nR at h4
      rcases i with i | i | i <;> rw [i] at h4 ⊢ <;> simp at h4 <;> subst h4 <;> simp [ofR]
      omega
    · rw [ofR_cons_other hr]
      rcases i with i | i | i <;> rw [i] <;> simp [ofR]
theorem Std.less {t : List Rq} {l : List (Int × Int)} (h : Std t l) (r : Int) : Std t (woL r l) := by
  induction l using snoc_ind with
  | h0 => exact Std.nil t
  | h1 l s ih =>
    obtain ⟨h1, h2⟩ := h.init
    have i := ih h1
    rw [wo_append]
    by_cases hs : s.1 = r
    · have : woL r [s] = [] := by simp [woL, hs]
      rw [this, List.append_nil]
      exact i
    · have : woL r [s] = [s] := by simp [woL, hs]
      rw [this]
      refine i.snoc ?_
      obtain ⟨a, b, c⟩ := stB_iff.1 h2
      refine stB_iff.2 ⟨a, b, ?_⟩
      unfold nR at c ⊢
      rw [ofR_wo hs]
      exact c
theorem acc_one {t : List Rq} (r : Int) : acc t [(r, 0)] = ldR t r ∧ acc t [(r, 0), (r, 1)] = 0 := by
  constructor <;> simp [acc, stN, sg]
  omega
theorem Std.acc_nonneg {t : List Rq} (ht : ∀ q ∈ t, q.chk = 0) : ∀ (n : Nat) {l : List (Int × Int)}, l.length ≤ n → Std t l → 0 ≤ acc t l
  | 0, l, hn, _ => by
    obtain rfl : l = [] := List.eq_nil_of_length_eq_zero (by omega)
    exact Int.le_refl _
  | n + 1, [], _, _ => Int.le_refl _
  | n + 1, s :: l, hn, h => by
    have e := acc_wo t s.1 (s :: l)
    have h2 := Std.acc_nonneg ht n (l := woL s.1 (s :: l)) (by rw [wo_cons_own rfl]; have := wo_length s.1 l; simp at hn; omega) (h.less s.1)
    have h3 : 0 ≤ acc t (ofR s.1 (s :: l)) := by
      rcases h.own s.1 with i | i | i <;> rw [i]
      · exact Int.le_refl _
      · rw [(acc_one s.1).1]; exact ld_nonneg ht s.1
      · rw [(acc_one s.1).2]; exact Int.le_refl _
    omega
theorem Std.route {t : List Rq} (ht : ∀ q ∈ t, q.chk = 0) {l : List (Int × Int)} (h : Std t l) (ha : acc t l ≤ 0) : isR l = true := by
  refine isR_iff.2 fun s hs => ?_
  have hi := h.ins s hs
  refine ⟨hi.1, ?_⟩
  rcases h.own s.1 with i | i | i
  · have := mem_ofR.2 ⟨hs, rfl⟩
    rw [i] at this
    cases this
  · exfalso
    have e := acc_wo t s.1 l
    have h2 := Std.acc_nonneg ht l.length (l := woL s.1 l) (wo_length s.1 l) (h.less s.1)
    rw [i, (acc_one s.1).1] at e
    have hq : t[s.1.toNat]? = some (t[s.1.toNat]'(by omega)) := List.getElem?_eq_getElem _
    have := chk_ld ht _ (List.getElem_mem (h := (by omega : s.1.toNat < t.length)))
    rw [ldR_get hq] at e
    omega
  · exact i
theorem walk_std {v : Vh} {t : List Rq} {P : Pace} : ∀ {l pre : List (Int × Int)} {a : Sp}, Std t pre → pre.length ≤ 16 → (walkV v t P pre a l).1 = 0 → Std t (pre ++ l) ∧ (pre ++ l).length ≤ 16 ∧ boardB v.cp t pre l = true
  | [], pre, a, h, hn, _ => by rw [List.append_nil]; exact ⟨h, hn, rfl⟩
  | s :: l, pre, a, h, hn, h0 => by
    by_cases hs : srvV v t P pre a s = 0
    · obtain ⟨b1, b2, b3, b4⟩ := srv_bits.1 hs
      rw [walkV_go hs] at h0
      obtain ⟨i1, i2, i3⟩ := walk_std (h.snoc b2) (by simp; omega) h0
      rw [show pre ++ s :: l = (pre ++ [s]) ++ l by simp]
      exact ⟨i1, i2, by rw [boardB, i3, decide_eq_true b3]; rfl⟩
    · rw [walkV_stop hs] at h0
      exact absurd h0 hs
theorem look_may {v : Vh} {l : List (Int × Int)} {t : List Rq} {P : Pace} (h : (lookV v l t P).1 = 0) : mayB v l t = true := by
  unfold lookV at h
  split at h
  · simp at h
  rename_i hv
  split at h
  · simp at h
  rename_i hb
  dsimp only at h
  split at h
  · rename_i hw; simp at h; exact absurd h hw
  rename_i hw
  have ht := badK_ok.1 (show badK t < 0 by omega)
  obtain ⟨h1, h2, h3⟩ := walk_std (Std.nil t) (by simp) (show (walkV v t P [] (sp0 v) l).1 = 0 by omega)
  rw [List.nil_append] at h1 h2
  have ha : acc t l ≤ 0 := by
    unfold homeE at h
    split at h
    · simp at h
    · omega
  have hR := h1.route ht ha
  refine may_iff.2 ⟨by omega, ?_, ht, fun s hs => (h1.ins s hs).2, h3⟩
  unfold checkV
  rw [if_neg (by omega), if_pos hR]
theorem may_dr {v : Vh} {l : List (Int × Int)} {t : List Rq} (h : mayB v l t = true) : v.chk = 0 ∧ (∀ q ∈ t, q.chk = 0) ∧ isR l = true ∧ l.length ≤ 16 ∧ InR t l ∧ boardB v.cp t [] l = true := by
  obtain ⟨h1, h2, h3, h4, h5⟩ := may_iff.1 h
  obtain ⟨h6, h7⟩ := check_isR h2
  exact ⟨h1, h3, h6, h7, h4, h5⟩

/-- Home in time, if it comes so far. -/
def homeB (v : Vh) : Option Sp → Bool
  | some b => decide (arV b (homeV v) ≤ v.en)
  | none => false
theorem right_no {v : Vh} {l : List (Int × Int)} {t : List Rq} {ts : List Tm} (h : mayB v l t = false) : rightB v l t ts = false := by
  cases e : rightB v l t ts
  · rfl
  · have := look_may (right_iff.1 e).2
    rw [h] at this
    cases this
theorem right_len {v : Vh} {l : List (Int × Int)} {t : List Rq} {ts : List Tm} (h : ts.length ≠ l.length) : rightB v l t ts = false := by
  cases e : rightB v l t ts
  · rfl
  · exact absurd (right_iff.1 e).1 h
theorem right_may {v : Vh} {l : List (Int × Int)} {t : List Rq} {ts : List Tm} (h : mayB v l t = true) (hn : ts.length = l.length) : rightB v l t ts = homeB v (keptL (sp0 v) (visL t l) ts) := by
  obtain ⟨h1, h2, h3, h4, h5, h6⟩ := may_dr h
  have hk := run_kept ts (visL t l) 0 (sp0 v) (by simp [visL, hn])
  rw [List.drop_zero] at hk
  rw [Bool.eq_iff_iff, right_iff, look_iff h1 h2 h3 h4 h5, hk]
  cases e : keptL (sp0 v) (visL t l) ts with
  | none =>
    constructor
    · rintro ⟨_, _, b, hb, _⟩; cases hb
    · intro h; cases h
  | some b =>
    simp only [homeB, decide_eq_true_eq]
    constructor
    · rintro ⟨_, _, b', hb, h⟩; cases hb; exact h
    · intro h; exact ⟨hn, h6, b, rfl, h⟩

/-- How far these times serve. -/
def KeptTo (v : Vh) (t : List Rq) (l : List (Int × Int)) (ts : List Tm) (k : Nat) (S : Sp) : Prop := keptL (sp0 v) (visL t l) ts = keptL S (visL t (l.drop k)) (ts.drop k)
theorem KeptTo.next {v : Vh} {t : List Rq} {l : List (Int × Int)} {ts : List Tm} {k : Nat} {S : Sp} {s : Int × Int} {y : Tm} {x : Vi} (h : KeptTo v t l ts k S) (hs : l[k]? = some s) (hy : ts[k]? = some y) (hx : visV t s = x) (hk : keptB x (arV S x) y = true) : KeptTo v t l ts (k + 1) ⟨y.lv, x.px, x.py⟩ := by
  obtain ⟨h1, e1⟩ := List.getElem?_eq_some_iff.1 hs
  obtain ⟨h2, e2⟩ := List.getElem?_eq_some_iff.1 hy
  unfold KeptTo at h ⊢
  rw [h, List.drop_eq_getElem_cons h1, List.drop_eq_getElem_cons h2, e1, e2]
  show keptL S (visV t s :: visL t (l.drop (k + 1))) _ = _
  rw [keptL, hx, if_pos hk]
theorem KeptTo.no {v : Vh} {t : List Rq} {l : List (Int × Int)} {ts : List Tm} {k : Nat} {S : Sp} {s : Int × Int} {y : Tm} {x : Vi} (h : KeptTo v t l ts k S) (hs : l[k]? = some s) (hy : ts[k]? = some y) (hx : visV t s = x) (hk : keptB x (arV S x) y = false) : homeB v (keptL (sp0 v) (visL t l) ts) = false := by
  obtain ⟨h1, e1⟩ := List.getElem?_eq_some_iff.1 hs
  obtain ⟨h2, e2⟩ := List.getElem?_eq_some_iff.1 hy
  unfold KeptTo at h
  rw [h, List.drop_eq_getElem_cons h1, List.drop_eq_getElem_cons h2, e1, e2]
  show homeB v (keptL S (visV t s :: visL t (l.drop (k + 1))) _) = _
  rw [keptL, hx, hk]
  rfl
theorem KeptTo.end {v : Vh} {t : List Rq} {l : List (Int × Int)} {ts : List Tm} {S : Sp} (h : KeptTo v t l ts l.length S) : homeB v (keptL (sp0 v) (visL t l) ts) = decide (arV S (homeV v) ≤ v.en) := by
  unfold KeptTo at h
  rw [h, List.drop_length]
  rfl
theorem InR.vis {t : List Rq} {l : List (Int × Int)} (hR : isR l = true) (h : InR t l) (ht : ∀ q ∈ t, q.chk = 0) : ∀ s ∈ l, ∃ x, visO t s = some x ∧ OkVi x := by
  intro s hs
  obtain ⟨p, q, e⟩ := List.append_of_mem hs
  obtain ⟨x, hx, _⟩ := stB_vis (route_stB hR h e)
  exact ⟨x, hx, vis_ok ht hx⟩
theorem kept_no {x : Vi} {n : Int} {y : Tm} (h : ¬ (n ≤ y.ar ∧ y.ar ≤ y.be ∧ (x.we ≤ y.be ∧ y.be ≤ x.wl) ∧ y.lv = y.be + x.sv)) : keptB x n y = false := by
  cases e : keptB x n y
  · rfl
  · exact absurd (keptB_iff.1 e) h
end Go.Proofs.YteefkijmodcijaaDoor.Feas

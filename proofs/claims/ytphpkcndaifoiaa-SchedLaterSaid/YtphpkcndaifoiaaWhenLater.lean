/-
  Who starts later is nowhere earlier; a longer shift, and windows that open later. No program is spoken of here.
-/
import Derived.Test.YtphpkcndaifoiaaWhenMild
namespace Go.Proofs.Ytphpkcndaifoiaa.Later
open Go.RowKit Go.Proofs.Ytphpkcndaifoiaa.Order Go.Proofs.Ytphpkcndaifoiaa.Place Go.Proofs.Ytphpkcndaifoiaa.Window Go.Proofs.Ytphpkcndaifoiaa.Up Go.Proofs.Ytphpkcndaifoiaa.When
set_option linter.unusedVariables false

/-- A visit whose window opens no later. -/
structure Rel (x y : Vi) : Prop where
  px : x.px = y.px
  py : x.py = y.py
  sv : x.sv = y.sv
  wl : x.wl = y.wl
  we0 : 0 ≤ x.we
  we : x.we ≤ y.we
inductive Rels : List Vi → List Vi → Prop
  | nil : Rels [] []
  | cons {x y : Vi} {xs ys : List Vi} : Rel x y → Rels xs ys → Rels (x :: xs) (y :: ys)
/-- Nowhere earlier. -/
def Le (p q : Tm) : Prop := p.ar ≤ q.ar ∧ p.be ≤ q.be ∧ p.lv ≤ q.lv
theorem one_le {a b : Sp} {x y : Vi} (hn : a.now ≤ b.now) (hx : a.px = b.px) (hy : a.py = b.py) (h : Rel x y) (hi : inB b y = true) :
    inB a x = true ∧ Le (tmV a x) (tmV b y) ∧ (goV a x).now ≤ (goV b y).now ∧ (goV a x).px = (goV b y).px ∧ (goV a x).py = (goV b y).py := by
  have ha : arV a x ≤ arV b y := by unfold arV; rw [hx, hy, h.px, h.py]; omega
  have h2 := (waitB_iff _ _ _).1 hi
  have h3 : waitB x.we x.wl (arV a x) = true := by rw [waitB_iff, h.wl]; have := h.we; have := h.we0; omega
  have e1 : beV b y = max (arV b y) y.we := wait_yes hi
  have e2 : beV a x = max (arV a x) x.we := wait_yes h3
  have := h.we
  refine ⟨h3, ⟨ha, ?_, ?_⟩, ?_, h.px, h.py⟩
  · show beV a x ≤ beV b y
    omega
  · show beV a x + x.sv ≤ beV b y + y.sv
    rw [h.sv]; omega
  · show beV a x + x.sv ≤ beV b y + y.sv
    rw [h.sv]; omega
theorem all_le : ∀ {xs ys : List Vi} (a b : Sp), a.now ≤ b.now → a.px = b.px → a.py = b.py → Rels xs ys → allB b ys = true →
    allB a xs = true ∧ (∀ (k : Nat) p q, (tmsL (stepsL a xs))[k]? = some p → (tmsL (stepsL b ys))[k]? = some q → Le p q) ∧ (endA a xs).now ≤ (endA b ys).now ∧ (endA a xs).px = (endA b ys).px ∧ (endA a xs).py = (endA b ys).py
  | _, _, a, b, h1, h2, h3, .nil, _ => ⟨rfl, fun k p q h => (by simp [tmsL, stepsL] at h), h1, h2, h3⟩
  | _, _, a, b, h1, h2, h3, .cons (x := x) (y := y) (xs := xs) (ys := ys) hr hrs, hall => by
    unfold allB at hall
    rw [stepsL, List.all_cons, Bool.and_eq_true] at hall
    obtain ⟨i1, i2, i3, i4, i5⟩ := one_le h1 h2 h3 hr hall.1
    obtain ⟨r1, r2, r3⟩ := all_le (goV a x) (goV b y) i3 i4 i5 hrs hall.2
    refine ⟨?_, fun k p q hp hq => ?_, r3⟩
    · unfold allB
      rw [stepsL, List.all_cons, Bool.and_eq_true]
      exact ⟨i1, r1⟩
    · cases k with
      | zero =>
        simp [tmsL, stepsL] at hp hq
        rw [← hp, ← hq]
        exact i2
      | succ k =>
        refine r2 k p q ?_ ?_
        · simpa [tmsL, stepsL] using hp
        · simpa [tmsL, stepsL] using hq
theorem end_le {v w : Vh} {l : List (Int × Int)} {t u : List Rq} (hx : v.hx = w.hx) (hy : v.hy = w.hy) (h1 : (endA (sp0 v) (visL t l)).now ≤ (endA (sp0 w) (visL u l)).now) (h2 : (endA (sp0 v) (visL t l)).px = (endA (sp0 w) (visL u l)).px) (h3 : (endA (sp0 v) (visL t l)).py = (endA (sp0 w) (visL u l)).py) : endT v l t ≤ endT w l u := by
  unfold endT arV homeV
  dsimp only
  rw [hx, hy, h2, h3]
  omega
theorem okT_parts {v : Vh} {l : List (Int × Int)} {t : List Rq} (h : okT v l t = true) : allB (sp0 v) (visL t l) = true ∧ endT v l t ≤ v.en := by
  unfold okT at h
  rw [Bool.and_eq_true, decide_eq_true_eq] at h
  exact h
theorem okT_of {v : Vh} {l : List (Int × Int)} {t : List Rq} (h1 : allB (sp0 v) (visL t l) = true) (h2 : endT v l t ≤ v.en) : okT v l t = true := by
  unfold okT
  rw [h1, decide_eq_true h2]; rfl

theorem rels_map {l : List (Int × Int)} {f g : Int × Int → Vi} (h : ∀ s ∈ l, Rel (f s) (g s)) : Rels (l.map f) (l.map g) := by
  induction l with
  | nil => exact .nil
  | cons s l ih => exact .cons (h s (List.mem_cons_self ..)) (ih fun x hx => h x (List.mem_cons_of_mem _ hx))
theorem we_nonneg {t : List Rq} (ht : ∀ q ∈ t, q.chk = 0) {s : Int × Int} {x : Vi} (h : visO t s = some x) : 0 ≤ x.we ∧ x.we ≤ x.wl := by
  obtain ⟨q, hq, _, _, _, h2⟩ := visO_some h
  have hc := ht q (List.mem_of_getElem? hq)
  unfold Rq.chk at hc
  have := ((chk_iff ..).1 hc).2.1
  rw [okB_iff, okB_iff] at this
  rcases h2 with ⟨_, rfl⟩ | ⟨_, rfl⟩
  · exact ⟨this.1.1, this.1.2.1⟩
  · exact ⟨this.2.1, this.2.2.1⟩

/-- What is wrong depends on the vehicle by its check alone. -/
theorem wrong_same {v w : Vh} (h : v.chk = w.chk) (l : List (Int × Int)) (t : List Rq) : wrongV v l t = wrongV w l t := by unfold wrongV; rw [h]

/-- Who starts later. -/
theorem start_later {v w : Vh} {l : List (Int × Int)} {t : List Rq} (hx : v.hx = w.hx) (hy : v.hy = w.hy) (hen : v.en = w.en) (hst : v.st ≤ w.st) (hc : v.chk = w.chk) (h : errT w l t = 0) :
    errT v l t = 0 ∧ (∀ (k : Nat) p q, (rowT v l t)[k]? = some p → (rowT w l t)[k]? = some q → Le p q) ∧ endT v l t ≤ endT w l t := by
  obtain ⟨h1, h2⟩ := errT_zero h
  obtain ⟨_, hq, _, hs⟩ := wrong_bits w l t h1
  obtain ⟨hall, hend⟩ := okT_parts h2
  have hr : Rels (visL t l) (visL t l) := rels_map fun s hs' => by
    obtain ⟨x, hx'⟩ := hs s hs'
    have := we_nonneg hq hx'
    rw [(vis_some hx').1]
    exact ⟨rfl, rfl, rfl, rfl, this.1, Int.le_refl _⟩
  obtain ⟨r1, r2, r3, r4, r5⟩ := all_le (sp0 v) (sp0 w) hst hx hy hr hall
  have he := end_le hx hy r3 r4 r5
  refine ⟨errT_ok (by rw [wrong_same hc]; exact h1) (okT_of r1 (by rw [hen]; omega)), r2, he⟩

/-- A longer shift. -/
theorem shift_longer {v u : Vh} {l : List (Int × Int)} {t : List Rq} (hx : v.hx = u.hx) (hy : v.hy = u.hy) (hst : v.st = u.st) (hen : v.en ≤ u.en) (hc : v.chk = u.chk) (h : errT v l t = 0) :
    errT u l t = 0 ∧ timesL u l t = timesL v l t ∧ homeT u l t = homeT v l t := by
  obtain ⟨h1, h2⟩ := errT_zero h
  obtain ⟨hall, hend⟩ := okT_parts h2
  have hsp : sp0 v = sp0 u := by unfold sp0; rw [hx, hy, hst]
  have he : endT u l t = endT v l t := by unfold endT arV homeV; dsimp only; rw [hsp, hx, hy]
  have h3 : errT u l t = 0 := errT_ok (by rw [← wrong_same hc]; exact h1) (okT_of (by rw [← hsp]; exact hall) (by rw [he]; omega))
  refine ⟨h3, ?_, by rw [homeT_ok h3, homeT_ok h, he]⟩
  rw [timesL_ok h3, timesL_ok h]
  unfold rowT
  rw [hsp]

/-- A window for the drop that opens later. -/
def lateQ (x : Int) (q : Rq) : Rq := { q with de := min (q.de + x) q.dl }
theorem lateQ_chk {x : Int} (hx : 0 ≤ x) {q : Rq} (h : q.chk = 0) : (lateQ x q).chk = 0 := by
  unfold Rq.chk at h ⊢
  unfold lateQ
  rw [chk_iff] at h ⊢
  obtain ⟨h1, ⟨h2, h3⟩, h4⟩ := h
  refine ⟨h1, ⟨h2, ?_⟩, h4⟩
  rw [okB_iff] at h3 ⊢
  dsimp only
  omega
theorem visO_late (x : Int) (t : List Rq) (s : Int × Int) : (visO (t.map (lateQ x)) s = none ↔ visO t s = none) ∧ ∀ y, visO (t.map (lateQ x)) s = some y → ∃ z, visO t s = some z ∧ z.px = y.px ∧ z.py = y.py ∧ z.sv = y.sv ∧ z.wl = y.wl ∧ (y.we = z.we ∨ y.we = min (z.we + x) z.wl) := by
  have hi : inT (t.map (lateQ x)) s.1 = inT t s.1 := by simp [inT]
  cases hb : inT t s.1
  · rw [visO_out hb, visO_out (hi.trans hb)]
    exact ⟨by simp, fun y h => by cases h⟩
  · obtain ⟨q, hq, _, _⟩ := inT_get hb
    have hq' : (t.map (lateQ x))[s.1.toNat]? = some (lateQ x q) := by rw [List.getElem?_map, hq]; rfl
    by_cases h0 : s.2 = 0
    · rw [visO_pick hb hq h0, visO_pick (hi.trans hb) hq' h0]
      refine ⟨by simp, fun y h => ?_⟩
      cases h
      exact ⟨_, rfl, rfl, rfl, rfl, rfl, .inl rfl⟩
    · by_cases h1 : s.2 = 1
      · rw [visO_drop hb hq h1, visO_drop (hi.trans hb) hq' h1]
        refine ⟨by simp, fun y h => ?_⟩
        cases h
        exact ⟨_, rfl, rfl, rfl, rfl, rfl, .inr rfl⟩
      · rw [visO_odd h0 h1, visO_odd h0 h1]
        exact ⟨by simp, fun y h => by cases h⟩
theorem window_later {v : Vh} {l : List (Int × Int)} {t : List Rq} {x : Int} (hx : 0 ≤ x) (ht : ∀ q ∈ t, q.chk = 0) (h : errT v l (t.map (lateQ x)) = 0) :
    errT v l t = 0 ∧ (∀ (k : Nat) p q, (rowT v l t)[k]? = some p → (rowT v l (t.map (lateQ x)))[k]? = some q → Le p q) ∧ endT v l t ≤ endT v l (t.map (lateQ x)) := by
  obtain ⟨h1, h2⟩ := errT_zero h
  obtain ⟨hv, hq, hc, hs⟩ := wrong_bits v l _ h1
  obtain ⟨hall, hend⟩ := okT_parts h2
  have hvis : ∀ s ∈ l, Rel (visV t s) (visV (t.map (lateQ x)) s) ∧ visB t s = true := fun s hs' => by
    obtain ⟨y, hy⟩ := hs s hs'
    obtain ⟨z, hz, e1, e2, e3, e4, e5⟩ := (visO_late x t s).2 y hy
    have hw := we_nonneg ht hz
    rw [(vis_some hy).1, (vis_some hz).1]
    refine ⟨⟨e1, e2, e3, e4, hw.1, ?_⟩, (vis_some hz).2⟩
    rcases e5 with e5 | e5 <;> omega
  obtain ⟨r1, r2, r3, r4, r5⟩ := all_le (sp0 v) (sp0 v) (Int.le_refl _) rfl rfl (rels_map fun s hs' => (hvis s hs').1) hall
  have he := end_le (v := v) (w := v) rfl rfl r3 r4 r5
  have hwr : wrongV v l t = 0 := by
    unfold wrongV
    rw [if_neg (by omega), if_neg, if_neg (by omega), if_neg]
    · rw [List.any_eq_true]
      rintro ⟨s, hs', h⟩
      rw [(hvis s hs').2] at h
      cases h
    · rw [List.any_eq_true]
      rintro ⟨q, hq', h⟩
      exact absurd (ht q hq') (by simpa using h)
  exact ⟨errT_ok hwr (okT_of r1 (by omega)), r2, he⟩

theorem veh_late {v : Vh} (h : v.chk = 0) {b : Int} (hb : 0 ≤ b) : Vh.chk ⟨v.hx, v.hy, v.cp, min (v.st + b) v.en, v.en⟩ = 0 := by
  unfold Vh.chk at h ⊢
  rw [veh_iff] at h ⊢
  dsimp only
  exact ⟨h.1, h.2.1, by omega, by omega⟩
theorem veh_long {v : Vh} (h : v.chk = 0) {b : Int} (hb : 0 ≤ b) : Vh.chk ⟨v.hx, v.hy, v.cp, v.st, min (v.en + b) 1048576⟩ = 0 := by
  unfold Vh.chk at h ⊢
  rw [veh_iff] at h ⊢
  dsimp only
  exact ⟨h.1, h.2.1, by omega, by omega⟩
theorem de_bd {q : Rq} (h : q.chk = 0) : 0 ≤ q.de ∧ q.de ≤ q.dl ∧ q.dl ≤ 1048576 := by
  unfold Rq.chk at h
  have := ((chk_iff ..).1 h).2.1.2
  rw [okB_iff] at this
  exact this

end Go.Proofs.Ytphpkcndaifoiaa.Later

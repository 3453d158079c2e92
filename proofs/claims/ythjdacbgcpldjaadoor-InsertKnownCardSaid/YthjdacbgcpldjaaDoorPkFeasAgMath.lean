import Derived.Test.YthjdacbgcpldjaaDoorPkFeasSomeMath
import Derived.Test.YthjdacbgcpldjaaDoorPkLoadChk

/-
  What is wrong with a route that is drawn, by whether it goes in time and whether its load fits. No program is spoken of here.
-/
namespace Go.Proofs.YthjdacbgcpldjaaDoor.Feas
open Go.Proofs.YthjdacbgcpldjaaDoor.Order Go.Proofs.YthjdacbgcpldjaaDoor.Place Go.Proofs.YthjdacbgcpldjaaDoor.Route Go.Proofs.YthjdacbgcpldjaaDoor.When Go.Proofs.YthjdacbgcpldjaaDoor.Load Go.Proofs.YthjdacbgcpldjaaDoor.Window
set_option linter.unusedVariables false

/-- What is on board behind each of these, where others are ahead. -/
def profR (t : List Rq) : List (Int × Int) → List (Int × Int) → List Int
  | _, [] => []
  | pre, s :: l => acc t (pre ++ [s]) :: profR t (pre ++ [s]) l
theorem profR_range (t : List Rq) : ∀ (l pre : List (Int × Int)), profR t pre l = (List.range l.length).map fun k => acc t (pre ++ l.take (k + 1))
  | [], _ => rfl
  | s :: l, pre => by
    rw [profR, profR_range t l (pre ++ [s]), List.length_cons, List.range_succ_eq_map, List.map_cons, List.map_map]
    simp [Function.comp_def]
theorem prof_profR (t : List Rq) (l : List (Int × Int)) : prof t l = profR t [] l := by
  rw [profR_range]
  rfl
theorem fstF_ge (c : Int) : ∀ (p : List Int) (k : Nat), fstF c k p = -1 ∨ (k : Int) ≤ fstF c k p
  | [], k => .inl rfl
  | x :: p, k => by
    rw [fstF]
    split
    · exact .inr (Int.le_refl _)
    · rcases fstF_ge c p (k + 1) with h | h
      · exact .inl h
      · exact .inr (by omega)
theorem fstF_more (c : Int) : ∀ (p : List Int) (k : Nat), moreB c p = decide (fstF c k p ≠ -1)
  | [], k => rfl
  | x :: p, k => by
    rw [fstF]
    unfold moreB
    rw [List.any_cons]
    split
    · rename_i h
      rw [decide_eq_true h, Bool.true_or]
      exact (decide_eq_true (by omega)).symm
    · rename_i h
      rw [decide_eq_false h, Bool.false_or]
      exact fstF_more c p (k + 1)

/-- From stop to stop: nothing is wrong, or it is too full, or too late, first. -/
theorem walk_code {v : Vh} {t : List Rq} : ∀ {l pre : List (Int × Int)} {a : Sp}, (∀ p s q, l = p ++ s :: q → stB t (pre ++ p) s = true) → (pre ++ l).length ≤ 16 →
    ((walkV v t earlyP pre a l).1 = 0 ∧ fstF v.cp pre.length (profR t pre l) = -1 ∧ earlyL a (visL t l) = some (walkV v t earlyP pre a l).2.2) ∨
    ((walkV v t earlyP pre a l).1 = 10 ∧ fstF v.cp pre.length (profR t pre l) = ((walkV v t earlyP pre a l).2.1 : Int)) ∨
    ((walkV v t earlyP pre a l).1 = 9 ∧ earlyL a (visL t l) = none ∧ (fstF v.cp pre.length (profR t pre l) = -1 ∨ ((walkV v t earlyP pre a l).2.1 : Int) < fstF v.cp pre.length (profR t pre l)))
  | [], pre, a, _, _ => .inl ⟨rfl, rfl, rfl⟩
  | s :: l, pre, a, hs, hl => by
    have h1 := hs [] s l rfl
    rw [List.append_nil] at h1
    have hl' : ((pre ++ [s]) ++ l).length ≤ 16 := by simpa using hl
    have hk : pre.length < 16 := by simp at hl; omega
    have ih := walk_code (v := v) (t := t) (l := l) (pre := pre ++ [s]) (a := goP earlyP pre.length a (visV t s)) (fun p x q e => by
      have := hs (s :: p) x q (by rw [e]; rfl)
      simpa using this) hl'
    have ev : visL t (s :: l) = visV t s :: visL t l := rfl
    have en : (pre ++ [s]).length = pre.length + 1 := by simp
    rw [en] at ih
    rw [profR, fstF, ev, earlyL]
    by_cases hb : acc t (pre ++ [s]) ≤ v.cp
    · rw [if_neg (by omega)]
      by_cases hp : arV a (visV t s) ≤ (visV t s).wl
      · have h2 : srvV v t earlyP pre a s = 0 := srv_bits.2 ⟨hk, h1, hb, decide_eq_true hp⟩
        rw [walkV_go h2, if_pos hp]
        exact ih
      · have h2 : srvV v t earlyP pre a s = 9 := by
          unfold srvV
          rw [if_neg (by omega), if_neg (by simp [h1]), if_neg (by omega), if_pos (by simpa [earlyP] using hp)]
        rw [walkV_stop (by omega), if_neg hp]
        refine .inr (.inr ⟨h2, rfl, ?_⟩)
        rcases fstF_ge v.cp (profR t (pre ++ [s]) l) (pre.length + 1) with h | h
        · exact .inl h
        · exact .inr (by dsimp only; omega)
    · rw [if_pos (by omega)]
      have h2 : srvV v t earlyP pre a s = 10 := by
        unfold srvV
        rw [if_neg (by omega), if_neg (by simp [h1]), if_pos (by omega)]
      rw [walkV_stop (by omega)]
      exact .inr (.inl ⟨h2, rfl⟩)

theorem Dr.told {v : Vh} {l : List (Int × Int)} {t : List Rq} (h : Dr v l t) : toldV l t = 0 := by
  have hc : checkV l = 0 := by
    unfold checkV
    rw [if_neg (by have := h.hn; omega), if_pos h.hl]
  refine told_ok hc ?_ ?_
  · rw [Bool.eq_false_iff]
    intro e
    obtain ⟨s, hs, e⟩ := List.any_eq_true.1 e
    have := h.hr s hs
    simp [outB] at e
    omega
  · rw [Bool.eq_false_iff]
    intro e
    obtain ⟨s, hs, e⟩ := List.any_eq_true.1 e
    have h1 := h.hr s hs
    have h2 := (isR_iff.1 h.hl s hs).1
    have hq : t[s.1.toNat]? = some (t[s.1.toNat]'(by omega)) := List.getElem?_eq_getElem _
    unfold badB at e
    rw [hq] at e
    have := h.ht _ (List.getElem_mem (h := (by omega : s.1.toNat < t.length)))
    simp [this] at e
/-- Whether it fits, by the first stop behind which it is too full. -/
theorem Dr.fit {v : Vh} {l : List (Int × Int)} {t : List Rq} (h : Dr v l t) : fitAt v l t = fstF v.cp 0 (profR t [] l) ∧ fitE v l t = if fstF v.cp 0 (profR t [] l) = -1 then 0 else 10 := by
  have hp : profV l t = profR t [] l := by unfold profV; rw [if_pos h.told, prof_profR]
  have hv := h.hv
  have ht := h.told
  unfold fitAt fitE fstV
  rw [if_pos hv, if_neg (by omega), if_neg (by omega), hp, fstF_more v.cp _ 0]
  refine ⟨rfl, ?_⟩
  by_cases e : fstF v.cp 0 (profR t [] l) = -1
  · rw [if_pos e, if_neg (by simpa using e)]
  · rw [if_neg e, if_pos (by simpa using e)]
/-- What is wrong, by both. -/
theorem Dr.agree {v : Vh} {l : List (Int × Int)} {t : List Rq} (h : Dr v l t) :
    ((faultV v l t).1 = 0 ∧ When.errT v l t = 0 ∧ fitE v l t = 0) ∨
    ((faultV v l t).1 = 10 ∧ fitE v l t = 10 ∧ (faultV v l t).2.1 = 2 ∧ (faultV v l t).2.2 = fitAt v l t) ∨
    ((faultV v l t).1 = 9 ∧ When.errT v l t = 9 ∧ (fitE v l t = 0 ∨ fitE v l t = 10 ∧ (faultV v l t).2.1 = 2 ∧ (faultV v l t).2.2 < fitAt v l t)) := by
  obtain ⟨f1, f2⟩ := h.fit
  have hw := walk_code (v := v) (t := t) (l := l) (pre := []) (a := sp0 v) (fun p s q e => route_stB h.hl h.hr e) (by simpa using h.hn)
  have hb : badK t < 0 := badK_ok.2 h.ht
  have ha : acc t l = 0 := acc_last t h.hl
  have hv := h.hv
  have hlk : lookV v l t earlyP = if (walkV v t earlyP [] (sp0 v) l).1 ≠ 0 then ((walkV v t earlyP [] (sp0 v) l).1, 2, ((walkV v t earlyP [] (sp0 v) l).2.1 : Int)) else (homeE v t l (walkV v t earlyP [] (sp0 v) l).2.2, 3, (l.length : Int)) := by
    unfold lookV
    rw [if_neg (by omega), if_neg (by omega)]
  have herr := h.errT
  have hok := h.okT
  simp only [List.length_nil] at hw
  rw [f1, f2, herr]
  unfold faultV
  rcases hw with ⟨w1, w2, w3⟩ | ⟨w1, w2⟩ | ⟨w1, w2, w3⟩
  · rw [if_neg (by omega)] at hlk
    by_cases he : arV (walkV v t earlyP [] (sp0 v) l).2.2 (homeV v) ≤ v.en
    · have : (lookV v l t earlyP).1 = 0 := by
        rw [hlk]
        dsimp only [homeE]
        rw [if_neg (by omega), if_neg (by omega)]
      rw [if_pos this, if_pos (hok.2 ⟨_, w3, he⟩), if_pos w2]
      exact .inl ⟨rfl, rfl, rfl⟩
    · have h9 : homeE v t l (walkV v t earlyP [] (sp0 v) l).2.2 = 9 := by
        unfold homeE
        rw [if_neg (by omega), if_pos (by omega)]
      rw [hlk, h9, if_neg (by dsimp only; omega), if_pos w2, if_neg]
      · exact .inr (.inr ⟨rfl, rfl, .inl rfl⟩)
      · intro e
        obtain ⟨b, e1, e2⟩ := hok.1 e
        rw [w3] at e1
        cases e1
        exact he e2
  · rw [if_pos (by omega), w1] at hlk
    rw [hlk]
    exact .inr (.inl ⟨rfl, if_neg (by omega), rfl, w2.symm⟩)
  · rw [if_pos (by omega), w1] at hlk
    have hno : ¬ When.okT v l t = true := fun e => by
      obtain ⟨b, e1, _⟩ := hok.1 e
      rw [w2] at e1
      cases e1
    rw [hlk]
    refine .inr (.inr ⟨rfl, if_neg hno, ?_⟩)
    rcases w3 with w3 | w3
    · exact .inl (if_pos w3)
    · exact .inr ⟨if_neg (by omega), rfl, w3⟩
end Go.Proofs.YthjdacbgcpldjaaDoor.Feas

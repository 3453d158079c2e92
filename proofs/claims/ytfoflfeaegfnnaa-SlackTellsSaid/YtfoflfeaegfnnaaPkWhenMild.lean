import Derived.Test.YtfoflfeaegfnnaaPkWhenTrip

/-
  No number on the way is great, where nothing is wrong; what Times answers, by what trip goes through. No program's walk here.
-/
namespace Go.Proofs.Ytfoflfeaegfnnaa.When
open Go.RowKit Go.Proofs.Ytfoflfeaegfnnaa.Order Go.Proofs.Ytfoflfeaegfnnaa.Place Go.Proofs.Ytfoflfeaegfnnaa.Window Go.Proofs.Ytfoflfeaegfnnaa.Up
set_option linter.unusedVariables false

theorem wait_bd (e l t : Int) : 0 ≤ waitV e l t ∧ waitV e l t ≤ 1048576 := by
  unfold waitV
  cases h : waitB e l t
  · rw [orNil_f]; omega
  · rw [orNil_t]
    have := (waitB_iff e l t).1 h
    omega
theorem wait_yes {e l t : Int} (h : waitB e l t = true) : waitV e l t = max t e := by unfold waitV; rw [h, orNil_t]
theorem steps_bd : ∀ (xs : List Vi) (a : Sp), 0 ≤ a.now → a.now ≤ 1049576 → (∀ x ∈ xs, 0 ≤ x.sv ∧ x.sv ≤ 1000) → ∀ (pre rest : List (Sp × Vi)) (y : Sp × Vi), stepsL a xs = pre ++ y :: rest →
    0 ≤ y.1.now ∧ y.1.now ≤ 1049576 ∧ 0 ≤ y.2.sv ∧ y.2.sv ≤ 1000
  | [], a, _, _, _, pre, rest, y, h => by cases pre <;> cases h
  | x :: xs, a, h1, h2, hx, pre, rest, y, h => by
    cases pre with
    | nil =>
      rw [stepsL, List.nil_append] at h
      injection h with h _
      subst h
      have := hx x (List.mem_cons_self ..)
      exact ⟨h1, h2, this.1, this.2⟩
    | cons z pre =>
      rw [stepsL, List.cons_append] at h
      injection h with _ h
      have hb := wait_bd x.we x.wl (arV a x)
      have hs := hx x (List.mem_cons_self ..)
      exact steps_bd xs (goV a x) (by show 0 ≤ beV a x + x.sv; unfold beV; omega) (by show beV a x + x.sv ≤ _; unfold beV; omega) (fun u hu => hx u (List.mem_cons_of_mem _ hu)) pre rest y h
theorem chk_sv {q : Rq} (h : q.chk = 0) : 0 ≤ q.sv ∧ q.sv ≤ 1000 := by
  unfold Rq.chk at h
  exact ((chk_iff ..).1 h).2.2.2
theorem veh_bd {v : Vh} (h : v.chk = 0) : 0 ≤ v.st ∧ v.st ≤ 1048576 ∧ v.st ≤ v.en ∧ v.en ≤ 1048576 := by
  unfold Vh.chk at h
  have := (veh_iff ..).1 h
  omega
theorem vis_sv {t : List Rq} (ht : ∀ q ∈ t, q.chk = 0) (s : Int × Int) : 0 ≤ (visV t s).sv ∧ (visV t s).sv ≤ 1000 := by
  cases h : visO t s with
  | none => rw [(vis_none h).1]; unfold noVi; simp
  | some x =>
    rw [(vis_some h).1]
    obtain ⟨q, hq, _, _, hsv, _⟩ := visO_some h
    rw [hsv]
    exact chk_sv (ht q (List.mem_of_getElem? hq))
theorem all_sv {v : Vh} {l : List (Int × Int)} {t : List Rq} (ht : ∀ q ∈ t, q.chk = 0) : ∀ x ∈ visL t l ++ [homeV v], 0 ≤ x.sv ∧ x.sv ≤ 1000 := by
  intro x hx
  rcases List.mem_append.1 hx with hx | hx
  · obtain ⟨s, _, rfl⟩ := List.mem_map.1 hx
    exact vis_sv ht s
  · obtain rfl := List.mem_singleton.1 hx
    unfold homeV
    simp
theorem mild_of {v : Vh} {l : List (Int × Int)} {t : List Rq} (h : wrongV v l t = 0) : Mild v l t := by
  obtain ⟨h1, h2, _, _⟩ := wrong_bits v l t h
  have hv := veh_bd h1
  intro pre rest y e _
  have hb := steps_bd _ (sp0 v) (by show 0 ≤ v.st; omega) (by show v.st ≤ _; omega) (all_sv h2) pre rest y e
  have hd := distV_bd (y.1.px, y.1.py) (y.2.px, y.2.py)
  have hw := wait_bd y.2.we y.2.wl (arV y.1 y.2)
  unfold beV arV at *
  omega

theorem tripL_eq (v : Vh) (l : List (Int × Int)) (t : List Rq) : tripL v l t = stepsL (sp0 v) (visL t l) ++ [(endA (sp0 v) (visL t l), homeV v)] := by
  unfold tripL
  rw [stepsL_append]
  rfl
theorem trip_tms (v : Vh) (l : List (Int × Int)) (t : List Rq) : tmsL (tripL v l t) = rowT v l t ++ [tmV (endA (sp0 v) (visL t l)) (homeV v)] := by
  rw [tripL_eq, tmsL_snoc]
  rfl
theorem rowT_length (v : Vh) (l : List (Int × Int)) (t : List Rq) : (rowT v l t).length = l.length := by
  unfold rowT tmsL
  rw [List.length_map, stepsL_length]
  simp [visL]
theorem trip_good {v : Vh} {l : List (Int × Int)} {t : List Rq} (h : wrongV v l t = 0) : (tripL v l t).all good = okT v l t := by
  obtain ⟨h1, _, _, _⟩ := wrong_bits v l t h
  have hv := veh_bd h1
  rw [tripL_eq, List.all_append]
  unfold okT allB
  congr 1
  show (good (endA (sp0 v) (visL t l), homeV v) && true) = _
  rw [Bool.and_true]
  show waitB 0 v.en (endT v l t) = decide (endT v l t ≤ v.en)
  rw [Bool.eq_iff_iff, waitB_iff, decide_eq_true_eq]
  omega

theorem errT_wrong {v : Vh} {l : List (Int × Int)} {t : List Rq} (h : wrongV v l t ≠ 0) : errT v l t = wrongV v l t := by unfold errT; rw [if_pos h]
theorem errT_late {v : Vh} {l : List (Int × Int)} {t : List Rq} (h : wrongV v l t = 0) (hb : okT v l t = false) : errT v l t = 9 := by unfold errT; rw [if_neg (by omega), hb]; rfl
theorem errT_ok {v : Vh} {l : List (Int × Int)} {t : List Rq} (h : wrongV v l t = 0) (hb : okT v l t = true) : errT v l t = 0 := by unfold errT; rw [if_neg (by omega), hb]; rfl
theorem errT_zero {v : Vh} {l : List (Int × Int)} {t : List Rq} (h : errT v l t = 0) : wrongV v l t = 0 ∧ okT v l t = true := by
  unfold errT at h
  split at h
  · rename_i h1; exact absurd h h1
  · rename_i h1
    split at h
    · rename_i h2; exact ⟨by omega, h2⟩
    · omega
theorem timesL_ok {v : Vh} {l : List (Int × Int)} {t : List Rq} (h : errT v l t = 0) : timesL v l t = rowT v l t := by unfold timesL; rw [if_pos h]
theorem timesL_no {v : Vh} {l : List (Int × Int)} {t : List Rq} (h : errT v l t ≠ 0) : timesL v l t = [] := by unfold timesL; rw [if_neg h]
theorem homeT_ok {v : Vh} {l : List (Int × Int)} {t : List Rq} (h : errT v l t = 0) : homeT v l t = endT v l t := by unfold homeT; rw [if_pos h]
theorem homeT_no {v : Vh} {l : List (Int × Int)} {t : List Rq} (h : errT v l t ≠ 0) : homeT v l t = 0 := by unfold homeT; rw [if_neg h]

/-- Bounds of times. -/
def TmOk (x : Tm) : Prop := (0 ≤ x.ar ∧ x.ar ≤ 3000000) ∧ (0 ≤ x.be ∧ x.be ≤ 3000000) ∧ (0 ≤ x.lv ∧ x.lv ≤ 3000000)
theorem tms_ok : ∀ (xs : List Vi) (a : Sp), 0 ≤ a.now → a.now ≤ 1049576 → (∀ x ∈ xs, 0 ≤ x.sv ∧ x.sv ≤ 1000) → (∀ x ∈ tmsL (stepsL a xs), TmOk x) ∧ 0 ≤ (endA a xs).now ∧ (endA a xs).now ≤ 1049576
  | [], a, h1, h2, _ => ⟨fun x hx => (by cases hx), h1, h2⟩
  | x :: xs, a, h1, h2, hx => by
    have hb := wait_bd x.we x.wl (arV a x)
    have hs := hx x (List.mem_cons_self ..)
    have hd := distV_bd (a.px, a.py) (x.px, x.py)
    obtain ⟨r1, r2⟩ := tms_ok xs (goV a x) (by show 0 ≤ beV a x + x.sv; unfold beV; omega) (by show beV a x + x.sv ≤ _; unfold beV; omega) (fun u hu => hx u (List.mem_cons_of_mem _ hu))
    refine ⟨fun u hu => ?_, r2⟩
    have hu : u ∈ tmV a x :: tmsL (stepsL (goV a x) xs) := hu
    rcases List.mem_cons.1 hu with rfl | hu
    · unfold TmOk tmV beV arV at *
      dsimp only
      omega
    · exact r1 u hu
theorem times_ok {v : Vh} {l : List (Int × Int)} {t : List Rq} (h : wrongV v l t = 0) : (∀ x ∈ rowT v l t, TmOk x) ∧ (0 ≤ endT v l t ∧ endT v l t ≤ 3000000) ∧ l.length ≤ 16 ∧ (0 ≤ v.st ∧ v.st ≤ 1048576) := by
  obtain ⟨h1, h2, h3, _⟩ := wrong_bits v l t h
  have hv := veh_bd h1
  have hr := tms_ok (visL t l) (sp0 v) (by show 0 ≤ v.st; omega) (by show v.st ≤ _; omega) (fun x hx => all_sv (v := v) h2 x (List.mem_append.2 (.inl hx)))
  have hd := distV_bd ((endA (sp0 v) (visL t l)).px, (endA (sp0 v) (visL t l)).py) ((homeV v).px, (homeV v).py)
  refine ⟨hr.1, ?_, ?_, hv.1, hv.2.1⟩
  · unfold endT arV
    omega
  · unfold Route.checkV at h3
    split at h3
    · omega
    · omega
theorem sums_bd : ∀ (ts : List Tm), (∀ x ∈ ts, TmOk x) → ∀ n : Int, 0 ≤ n → n ≤ 3000000 → (-3000000 * ts.length ≤ waitS ts ∧ waitS ts ≤ 3000000 * ts.length) ∧ (-3000000 * ts.length ≤ servS ts ∧ servS ts ≤ 3000000 * ts.length) ∧ (-3000000 * ts.length ≤ wayS n ts ∧ wayS n ts ≤ 3000000 * ts.length) ∧ (0 ≤ leftS n ts ∧ leftS n ts ≤ 3000000)
  | [], _, n, h1, h2 => by simp [waitS, servS, wayS, leftS]; omega
  | x :: ts, h, n, h1, h2 => by
    have hx := h x (List.mem_cons_self ..)
    have ih := sums_bd ts (fun y hy => h y (List.mem_cons_of_mem _ hy)) x.lv hx.2.2.1 hx.2.2.2
    rw [waitS_cons, servS_cons, wayS, show leftS n (x :: ts) = leftS x.lv ts from rfl]
    unfold TmOk at hx
    simp only [List.length_cons]
    omega

end Go.Proofs.Ytfoflfeaegfnnaa.When

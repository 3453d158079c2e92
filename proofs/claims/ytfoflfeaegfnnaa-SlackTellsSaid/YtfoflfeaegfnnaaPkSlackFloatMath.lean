import Derived.Test.YtfoflfeaegfnnaaPkSlackRiseMath
import Derived.Test.YtfoflfeaegfnnaaPkSlackPush2

/-
  A stop may be pushed by its float, and by one more not; what a push moves. No program is spoken of here.
-/
namespace Go.Proofs.Ytfoflfeaegfnnaa.Slack
open Go.Proofs.Ytfoflfeaegfnnaa.Order Go.Proofs.Ytfoflfeaegfnnaa.Place Go.Proofs.Ytfoflfeaegfnnaa.Window Go.Proofs.Ytfoflfeaegfnnaa.When
set_option linter.unusedVariables false

theorem shift_row : ∀ (ys : List Vi) (a a' : Sp) (b : Int), a.px = a'.px → a.py = a'.py → a.now ≤ a'.now → a'.now ≤ a.now + b →
    ((endB a (plainP ys)).px = (endB a' (plainP ys)).px ∧ (endB a (plainP ys)).py = (endB a' (plainP ys)).py ∧ (endB a (plainP ys)).now ≤ (endB a' (plainP ys)).now ∧ (endB a' (plainP ys)).now ≤ (endB a (plainP ys)).now + b) ∧
    ∀ (k : Nat) (x y : Tm), (rowB a (plainP ys))[k]? = some x → (rowB a' (plainP ys))[k]? = some y → x.be ≤ y.be ∧ y.be ≤ x.be + b
  | [], a, a', b, h1, h2, h3, h4 => ⟨⟨h1, h2, h3, h4⟩, fun k x y hx => by simp [plainP, rowB] at hx⟩
  | z :: ys, a, a', b, h1, h2, h3, h4 => by
    have hb : beB a z 0 ≤ beB a' z 0 ∧ beB a' z 0 ≤ beB a z 0 + b := by
      unfold beB arV
      rw [h1, h2]
      omega
    obtain ⟨i1, i2⟩ := shift_row ys (goB a z 0) (goB a' z 0) b rfl rfl (by show beB a z 0 + z.sv ≤ beB a' z 0 + z.sv; omega) (by show beB a' z 0 + z.sv ≤ beB a z 0 + z.sv + b; omega)
    refine ⟨i1, fun k x y hx hy => ?_⟩
    cases k with
    | zero =>
      simp only [plainP, List.map_cons, rowB, List.getElem?_cons_zero, Option.some.injEq] at hx hy
      subst hx
      subst hy
      exact hb
    | succ k =>
      simp only [plainP, List.map_cons, rowB, List.getElem?_cons_succ] at hx hy
      exact i2 k x y hx hy

theorem split_vis {v : Vh} {l : List (Int × Int)} {t : List Rq} {i : Nat} (hi : i < l.length) : visL t l = (visL t l).take i ++ visN v t l i :: (visL t l).drop (i + 1) ∧ ((visL t l).take i).length = i := by
  have hl : i < (visL t l).length := by simpa [visL] using hi
  refine ⟨?_, by simp; omega⟩
  rw [← drop_vis hi, List.take_append_drop]
theorem pairs_eq {v : Vh} {l : List (Int × Int)} {t : List Rq} {i : Nat} (hi : i < l.length) (by_ : Int) : pairs (visL t l) i by_ = plainP ((visL t l).take i) ++ (visN v t l i, by_) :: plainP ((visL t l).drop (i + 1)) := by
  obtain ⟨h1, h2⟩ := split_vis (v := v) (t := t) hi
  conv => lhs; rw [h1]
  exact pairs_split (by rw [h2])
theorem plain_eq {v : Vh} {l : List (Int × Int)} {t : List Rq} {i : Nat} (hi : i < l.length) : plainP (visL t l) = plainP ((visL t l).take i) ++ (visN v t l i, 0) :: plainP ((visL t l).drop (i + 1)) := by
  obtain ⟨h1, _⟩ := split_vis (v := v) (t := t) hi
  conv => lhs; rw [h1]
  simp [plainP]
/-- Where the vehicle is when it comes to the stop i. -/
def eI (v : Vh) (l : List (Int × Int)) (t : List Rq) (i : Nat) : Sp := endB (sp0 v) (plainP ((visL t l).take i))
theorem from_float {v : Vh} {l : List (Int × Int)} {t : List Rq} (h : errT v l t = 0) {i : Nat} (hi : i < l.length) (by_ : Int) {A : Int} (hA : (latestV v l t)[i]? = some A) : fromB v l t i by_ = true ↔ beB (eI v l t i) (visN v t l i) 0 + by_ ≤ A := by
  have h0 := inTime_zero h
  obtain ⟨h1, _⟩ := split_vis (v := v) (t := t) hi
  rw [h1] at h0
  rw [fromB_iff, pairs_eq hi, push_iff h0]
  rw [lat_hd h hi, drop_vis (v := v) hi] at hA
  cases hA
  rfl
theorem times_eq {v : Vh} {l : List (Int × Int)} {t : List Rq} (h : errT v l t = 0) {i : Nat} (hi : i < l.length) : timesL v l t = rowB (sp0 v) (plainP ((visL t l).take i)) ++ tmB (eI v l t i) (visN v t l i) 0 :: rowB (goB (eI v l t i) (visN v t l i) 0) (plainP ((visL t l).drop (i + 1))) := by
  rw [times_plain h, plain_eq (v := v) hi, rowB_append]
  rfl
theorem row_eq {v : Vh} {l : List (Int × Int)} {t : List Rq} {i : Nat} (hi : i < l.length) (by_ : Int) : rowB (sp0 v) (pairs (visL t l) i by_) = rowB (sp0 v) (plainP ((visL t l).take i)) ++ tmB (eI v l t i) (visN v t l i) by_ :: rowB (goB (eI v l t i) (visN v t l i) by_) (plainP ((visL t l).drop (i + 1))) := by
  rw [pairs_eq (v := v) hi, rowB_append]
  rfl
theorem home_eq {v : Vh} {l : List (Int × Int)} {t : List Rq} (h : errT v l t = 0) {i : Nat} (hi : i < l.length) : homeT v l t = arV (endB (goB (eI v l t i) (visN v t l i) 0) (plainP ((visL t l).drop (i + 1)))) (homeV v) := by
  have h1 := (from_no (v := v) (l := l) (t := t) (i := -1) (by_ := 0) (.inl rfl)).2
  rw [← h1]
  unfold fromH
  rw [if_pos (by rw [fromE_no (.inl rfl)]; exact h), pairs_plain (.inl rfl), plain_eq (v := v) hi, endB_append]
  rfl
theorem float_facts {v : Vh} {l : List (Int × Int)} {t : List Rq} (h : errT v l t = 0) {i : Nat} (hi : i < l.length) (hen : v.en ≤ 948) :
    ∃ F, (floatV v l t)[i]? = some F ∧ 0 ≤ F ∧ F ≤ 948 ∧ pushE v l t i (F + 1) = 9 ∧ (pushE v l t i F = 0) ∧ (0 ≤ homeT v l t ∧ homeT v l t ≤ 948) ∧ ∀ by_, 0 ≤ by_ → by_ ≤ F → pushE v l t i by_ = 0 ∧ (pushT v l t i by_).length = l.length ∧ homeT v l t ≤ pushH v l t i by_ ∧ pushH v l t i by_ ≤ homeT v l t + by_ ∧
      ∀ (k : Nat) (x y : Tm), (timesL v l t)[k]? = some x → (pushT v l t i by_)[k]? = some y → (k < i → y = x) ∧ (k = i → y.be - x.be = by_) ∧ 0 ≤ y.be - x.be ∧ y.be - x.be ≤ by_ := by
  obtain ⟨A, hA, hAb, hA1, hA2, hA3, _⟩ := rise_facts h hi
  have hfr := fun by_ => from_float h hi by_ hA
  have hxo := visN_okv (fine0_of (errT_zero.1 h).1) i
  obtain ⟨BE, hBE⟩ : ∃ BE, beB (eI v l t i) (visN v t l i) 0 = BE := ⟨_, rfl⟩
  have hlen1 : (rowB (sp0 v) (plainP ((visL t l).take i))).length = i := by
    rw [rowB_length]
    have := (split_vis (v := v) (t := t) hi).2
    simpa [plainP] using this
  have hTi : (timesL v l t)[i]? = some (tmB (eI v l t i) (visN v t l i) 0) := by
    rw [times_eq h hi, List.getElem?_append_right (by omega), hlen1, Nat.sub_self]
    rfl
  have hBb := time_bd h _ (List.mem_of_getElem? hTi)
  have hb1 : (tmB (eI v l t i) (visN v t l i) 0).be = BE := hBE
  rw [hb1] at hBb
  rw [hBE] at hfr
  have h00 : BE ≤ A := by
    have h1 := okT_fromB (errT_zero.1 h).1 (i := i) (by_ := 0) (.inl rfl)
    rw [(errT_zero.1 h).2] at h1
    have := (hfr 0).1 h1
    omega
  have hsv := hxo.2.2.2.1
  have hbad : ∀ b, 0 ≤ b → b ≤ 1048576 → badP l i b = false := fun b h1 h2 => by simp [badP]; omega
  have hHb : 0 ≤ homeT v l t ∧ homeT v l t ≤ 948 := by
    obtain ⟨hw, hk⟩ := errT_zero.1 h
    have h1 : homeT v l t ≤ v.en := by
      unfold homeT
      rw [if_pos h]
      unfold okT at hk
      rw [Bool.and_eq_true, decide_eq_true_eq] at hk
      exact hk.2
    have h2 : 0 ≤ homeT v l t := by
      have h3 := lat_hd h hi
      rw [home_eq h hi]
      have h4 := (shift_row ((visL t l).drop (i + 1)) (goB (eI v l t i) (visN v t l i) 0) (goB (eI v l t i) (visN v t l i) 0) 0 rfl rfl (Int.le_refl _) (by omega)).1
      have h5 : ∀ (ys : List Vi) (a : Sp), 0 ≤ a.now → (∀ y ∈ ys, Okv y) → 0 ≤ (endB a (plainP ys)).now := by
        intro ys
        induction ys with
        | nil => intro a h _; exact h
        | cons z zs ih =>
          intro a ha hz
          have hz0 := hz z (List.mem_cons_self ..)
          refine ih (goB a z 0) ?_ (fun y hy => hz y (List.mem_cons_of_mem _ hy))
          show 0 ≤ beB a z 0 + z.sv
          unfold beB
          have := hz0.1
          have := hz0.2.2.2.1
          omega
      have h6 := h5 ((visL t l).drop (i + 1)) (goB (eI v l t i) (visN v t l i) 0) (by show 0 ≤ beB (eI v l t i) (visN v t l i) 0 + (visN v t l i).sv; omega) (fun y hy => (fine0_of hw).okv y (List.mem_of_mem_drop hy))
      have h7 := distV_bd ((endB (goB (eI v l t i) (visN v t l i) 0) (plainP ((visL t l).drop (i + 1)))).px, (endB (goB (eI v l t i) (visN v t l i) 0) (plainP ((visL t l).drop (i + 1)))).py) ((homeV v).px, (homeV v).py)
      unfold arV
      omega
    exact ⟨h2, by omega⟩
  have hE : ∀ b, 0 ≤ b → b ≤ 1048576 → pushE v l t i b = if b ≤ A - BE then 0 else 9 := fun b h1 h2 => by
    rw [(push_good h (hbad b h1 h2)).1]
    by_cases hc : b ≤ A - BE
    · rw [if_pos hc, if_pos ((hfr b).2 (by omega))]
    · rw [if_neg hc, if_neg (fun e => hc (by have := (hfr b).1 e; omega))]
  refine ⟨A - BE, ?_, by omega, by omega, ?_, ?_, hHb, fun b hb0 hbF => ?_⟩
  · unfold floatV floatL
    rw [List.getElem?_zipWith, hA, hTi]
    simp [hb1]
  · rw [hE _ (by omega) (by omega), if_neg (by omega)]
  · rw [hE _ (by omega) (by omega), if_pos (Int.le_refl _)]
  · have hok : fromB v l t i b = true := (hfr b).2 (by omega)
    obtain ⟨p1, p2, p3⟩ := push_good h (hbad b hb0 (by omega))
    rw [hok] at p1 p2 p3
    obtain ⟨s1, s2⟩ := shift_row ((visL t l).drop (i + 1)) (goB (eI v l t i) (visN v t l i) 0) (goB (eI v l t i) (visN v t l i) b) b rfl rfl (by show beB _ _ 0 + _ ≤ beB _ _ b + _; unfold beB; omega) (by show beB _ _ b + _ ≤ beB _ _ 0 + _ + b; unfold beB; omega)
    have hend : endB (sp0 v) (pairs (visL t l) i b) = endB (goB (eI v l t i) (visN v t l i) b) (plainP ((visL t l).drop (i + 1))) := by
      rw [pairs_eq (v := v) hi, endB_append]
      rfl
    refine ⟨p1, ?_, ?_, ?_, fun k x y hx hy => ?_⟩
    · rw [p2, if_pos rfl, rowB_length, pairs_length]; simp [visL]
    · rw [p3, if_pos rfl, hend, home_eq h hi]
      unfold arV
      rw [s1.1, s1.2.1]
      omega
    · rw [p3, if_pos rfl, hend, home_eq h hi]
      unfold arV
      rw [s1.1, s1.2.1]
      omega
    · rw [p2, if_pos rfl, row_eq hi] at hy
      rw [times_eq h hi] at hx
      rcases Nat.lt_trichotomy k i with hk | hk | hk
      · rw [List.getElem?_append_left (by omega)] at hx hy
        rw [hx] at hy
        cases hy
        exact ⟨fun _ => rfl, fun e => by omega, by omega, by omega⟩
      · subst hk
        rw [List.getElem?_append_right (by omega), hlen1, Nat.sub_self] at hx hy
        simp only [List.getElem?_cons_zero, Option.some.injEq] at hx hy
        subst hx
        subst hy
        have e : (tmB (eI v l t k) (visN v t l k) b).be - (tmB (eI v l t k) (visN v t l k) 0).be = b := by
          show beB _ _ b - beB _ _ 0 = b
          unfold beB
          omega
        exact ⟨fun e => by omega, fun _ => e, by omega, by omega⟩
      · rw [List.getElem?_append_right (by omega), hlen1] at hx hy
        obtain ⟨m, hm⟩ : ∃ m, k - i = m + 1 := ⟨k - i - 1, by omega⟩
        rw [hm, List.getElem?_cons_succ] at hx hy
        have := s2 m x y hx hy
        exact ⟨fun e => by omega, fun e => by omega, by omega, by omega⟩

end Go.Proofs.Ytfoflfeaegfnnaa.Slack

import Derived.Test.YteefkijmodcijaaDoorPkFeasSomeLaw3

/-
  Rows of stops with a request more, and without one; where one stands. No program is spoken of here.
-/
namespace Go.Proofs.YteefkijmodcijaaDoor.Route

def putL (l : List (Int × Int)) (k : Nat) (s : Int × Int) : List (Int × Int) := l.take k ++ s :: l.drop k
def withL (l : List (Int × Int)) (r : Int) (i j : Nat) : List (Int × Int) := l.take i ++ (r, 0) :: ((l.take j).drop i ++ (r, 1) :: l.drop j)
def noR (r : Int) (l : List (Int × Int)) : Bool := l.all fun s => decide (s.1 ≠ r)
def mayW (l : List (Int × Int)) (r i j : Int) : Bool := decide (0 ≤ i) && decide (i ≤ j) && decide (j ≤ l.length) && decide (0 ≤ r) && decide (l.length + 2 ≤ 16) && noR r l
def withV (l : List (Int × Int)) (r i j : Int) : List (Int × Int) := if mayW l r i j then withL l r i.toNat j.toNat else []

theorem noR_iff {r : Int} {l : List (Int × Int)} : noR r l = true ↔ ∀ s ∈ l, s.1 ≠ r := by simp [noR]
theorem noR_ofR {r : Int} {l : List (Int × Int)} : noR r l = true ↔ ofR r l = [] := by
  rw [noR_iff]
  unfold ofR
  rw [List.filter_eq_nil_iff]
  simp
theorem mayW_iff {l : List (Int × Int)} {r i j : Int} : mayW l r i j = true ↔ 0 ≤ i ∧ i ≤ j ∧ j ≤ l.length ∧ 0 ≤ r ∧ l.length + 2 ≤ 16 ∧ noR r l = true := by
  unfold mayW
  simp only [Bool.and_eq_true, decide_eq_true_eq]
  constructor
  · rintro ⟨⟨⟨⟨⟨a, b⟩, c⟩, d⟩, e⟩, f⟩; exact ⟨a, b, c, d, e, f⟩
  · rintro ⟨a, b, c, d, e, f⟩; exact ⟨⟨⟨⟨⟨a, b⟩, c⟩, d⟩, e⟩, f⟩
theorem putL_length (l : List (Int × Int)) (k : Nat) (s : Int × Int) : (putL l k s).length = l.length + 1 := by
  have := congrArg List.length (List.take_append_drop k l)
  simp only [List.length_append] at this
  simp only [putL, List.length_append, List.length_cons]
  omega
theorem put_put {l : List (Int × Int)} {i j : Nat} (hij : i ≤ j) (hj : j ≤ l.length) (r : Int) : putL (putL l j (r, 1)) i (r, 0) = withL l r i j := by
  have h1 : (l.take j).length = j := by simp; omega
  unfold putL withL
  rw [List.take_append_of_le_length (by omega), List.drop_append_of_le_length (by omega), List.take_take, Nat.min_eq_left hij]
theorem withL_length {l : List (Int × Int)} {i j : Nat} (hij : i ≤ j) (hj : j ≤ l.length) (r : Int) : (withL l r i j).length = l.length + 2 := by
  rw [← put_put hij hj, putL_length, putL_length]
/-- A row in three parts, with a request more. -/
theorem withL_parts (a b c : List (Int × Int)) (r : Int) : withL (a ++ b ++ c) r a.length (a.length + b.length) = a ++ (r, 0) :: (b ++ (r, 1) :: c) := by
  unfold withL
  have h1 : (a ++ b ++ c).take a.length = a := by rw [List.append_assoc]; simp
  have h2 : (a ++ b ++ c).take (a.length + b.length) = a ++ b := by rw [← List.length_append]; exact List.take_left
  have h3 : (a ++ b ++ c).drop (a.length + b.length) = c := by rw [← List.length_append]; exact List.drop_left
  rw [h1, h2, h3]
  simp
theorem parts {l : List (Int × Int)} {i j : Nat} (hij : i ≤ j) (hj : j ≤ l.length) : ∃ a b c, l = a ++ b ++ c ∧ a.length = i ∧ a.length + b.length = j := by
  refine ⟨l.take i, (l.take j).drop i, l.drop j, ?_, by simp; omega, by simp; omega⟩
  have : (l.take j).take i ++ (l.take j).drop i = l.take j := List.take_append_drop i (l.take j)
  rw [List.take_take, Nat.min_eq_left hij] at this
  rw [this, List.take_append_drop]

/-! ### The document's loop -/

def partL (l : List (Int × Int)) (r : Int) (i j k : Nat) : List (Int × Int) :=
  if k ≤ i then l.take k else if k ≤ j then l.take i ++ (r, 0) :: (l.take k).drop i else l.take i ++ (r, 0) :: ((l.take j).drop i ++ (r, 1) :: (l.take k).drop j)
def oneIf (b : Bool) (s : Int × Int) : List (Int × Int) := if b then [s] else []

theorem dropTake {l : List (Int × Int)} {i k : Nat} (hik : i ≤ k) (hi : i ≤ l.length) (x : List (Int × Int)) : (l.take k ++ x).drop i = (l.take k).drop i ++ x := by
  rw [List.drop_append_of_le_length (by simp; omega)]
theorem partL_zero (l : List (Int × Int)) (r : Int) (i j : Nat) : partL l r i j 0 = [] := by simp [partL]
theorem partL_last {l : List (Int × Int)} {i j : Nat} (hij : i ≤ j) (hj : j ≤ l.length) (r : Int) : partL l r i j (l.length + 1) = withL l r i j := by
  unfold partL withL
  rw [if_neg (by omega), if_neg (by omega), List.take_of_length_le (Nat.le_succ _)]
theorem partL_a (l : List (Int × Int)) (r : Int) {i j k : Nat} (h : k ≤ i) : partL l r i j k = l.take k := by unfold partL; rw [if_pos h]
theorem partL_b (l : List (Int × Int)) (r : Int) {i j k : Nat} (h : i < k) (h2 : k ≤ j) : partL l r i j k = l.take i ++ (r, 0) :: (l.take k).drop i := by unfold partL; rw [if_neg (by omega), if_pos h2]
theorem partL_c (l : List (Int × Int)) (r : Int) {i j k : Nat} (h : i < k) (h2 : j < k) : partL l r i j k = l.take i ++ (r, 0) :: ((l.take j).drop i ++ (r, 1) :: (l.take k).drop j) := by unfold partL; rw [if_neg (by omega), if_neg (by omega)]
theorem oneIf_no {b : Bool} (h : b = false) (s : Int × Int) : oneIf b s = [] := by rw [h]; rfl
theorem oneIf_yes {b : Bool} (h : b = true) (s : Int × Int) : oneIf b s = [s] := by rw [h]; rfl
theorem drop_take_self (l : List (Int × Int)) (k : Nat) : (l.take k).drop k = [] := List.drop_eq_nil_of_le (by simp; omega)
theorem partL_succ {l : List (Int × Int)} {i j : Nat} (hij : i ≤ j) (hj : j ≤ l.length) (r : Int) (k : Nat) :
    partL l r i j (k + 1) = partL l r i j k ++ oneIf (decide (k = i)) (r, 0) ++ oneIf (decide (k = j)) (r, 1) ++ l[k]?.toList := by
  rcases Nat.lt_trichotomy k i with h | h | h
  · rw [partL_a l r (show k + 1 ≤ i by omega), partL_a l r (show k ≤ i by omega), oneIf_no (by simp; omega), oneIf_no (by simp; omega), List.take_add_one]
    simp
  · subst h
    rw [partL_a l r (Nat.le_refl k), oneIf_yes (by simp)]
    rcases Nat.lt_or_ge k j with h2 | h2
    · rw [partL_b l r (show k < k + 1 by omega) (show k + 1 ≤ j by omega), oneIf_no (by simp; omega), List.take_add_one, dropTake (Nat.le_refl _) (by omega), drop_take_self]
      simp
    · obtain rfl : j = k := by omega
      rw [partL_c l r (show j < j + 1 by omega) (show j < j + 1 by omega), oneIf_yes (by simp), List.take_add_one, dropTake (Nat.le_refl _) (by omega), drop_take_self]
      simp
  · rw [oneIf_no (show decide (k = i) = false by simp; omega)]
    rcases Nat.lt_trichotomy k j with h2 | h2 | h2
    · rw [partL_b l r (show i < k + 1 by omega) (show k + 1 ≤ j by omega), partL_b l r h (show k ≤ j by omega), oneIf_no (by simp; omega), List.take_add_one, dropTake (by omega) (by omega)]
      simp
    · subst h2
      rw [partL_c l r (show i < k + 1 by omega) (show k < k + 1 by omega), partL_b l r h (Nat.le_refl _), oneIf_yes (by simp), List.take_add_one, dropTake (Nat.le_refl _) (by omega), drop_take_self]
      simp
    · rw [partL_c l r (show i < k + 1 by omega) (show j < k + 1 by omega), partL_c l r h h2, oneIf_no (by simp; omega), List.take_add_one, dropTake (by omega) (by omega)]
      simp
theorem partL_length {l : List (Int × Int)} {i j : Nat} (hij : i ≤ j) (hj : j ≤ l.length) (r : Int) : ∀ k, (partL l r i j k).length ≤ k + 2
  | k => by
    unfold partL
    split
    · simp; omega
    · split
      · simp; omega
      · simp; omega

/-! ### Where a stop stands -/

def ixF (s : Int × Int) : Nat → List (Int × Int) → Int
  | _, [] => -1
  | k, x :: xs => if x = s then (k : Int) else ixF s (k + 1) xs
def ixV (s : Int × Int) (l : List (Int × Int)) : Int := ixF s 0 l
theorem ixF_yes {s x : Int × Int} (h : x = s) (k : Nat) (xs : List (Int × Int)) : ixF s k (x :: xs) = k := by rw [ixF, if_pos h]
theorem ixF_no {s x : Int × Int} (h : x ≠ s) (k : Nat) (xs : List (Int × Int)) : ixF s k (x :: xs) = ixF s (k + 1) xs := by rw [ixF, if_neg h]
theorem ixF_at {s : Int × Int} : ∀ {p : List (Int × Int)} {q : List (Int × Int)} {k : Nat}, (∀ x ∈ p, x ≠ s) → ixF s k (p ++ s :: q) = k + p.length
  | [], q, k, _ => by rw [List.nil_append, ixF_yes rfl]; simp
  | x :: p, q, k, h => by
    rw [List.cons_append, ixF_no (h x (List.mem_cons_self ..)), ixF_at (fun y hy => h y (List.mem_cons_of_mem _ hy))]
    simp only [List.length_cons]
    omega
theorem ixF_bd {s : Int × Int} : ∀ {l : List (Int × Int)} {k : Nat}, -1 ≤ ixF s k l ∧ ixF s k l ≤ k + l.length
  | [], k => by simp [ixF]
  | x :: l, k => by
    rw [ixF]
    split
    · simp only [List.length_cons]; omega
    · have := ixF_bd (s := s) (l := l) (k := k + 1)
      simp only [List.length_cons]
      omega

/-! ### What follows -/

theorem wo_append (r : Int) (a b : List (Int × Int)) : woL r (a ++ b) = woL r a ++ woL r b := List.filter_append ..
theorem wo_self {r : Int} {l : List (Int × Int)} (h : noR r l = true) : woL r l = l := by
  rw [noR_iff] at h
  exact List.filter_eq_self.2 fun s hs => by simpa using h s hs
theorem wo_own (r k : Int) (a : List (Int × Int)) : woL r ((r, k) :: a) = woL r a := by simp [woL]
theorem wo_length (r : Int) (l : List (Int × Int)) : (woL r l).length ≤ l.length := List.length_filter_le ..
theorem wo_less {r : Int} {l : List (Int × Int)} : (woL r l).length < l.length ↔ noR r l = false := by
  have h1 := wo_length r l
  constructor
  · intro h
    cases hn : noR r l
    · rfl
    · rw [wo_self hn] at h; omega
  · intro h
    have h2 : ¬ (woL r l).length = l.length := by
      intro e
      unfold woL at e
      have h3 := List.filter_eq_self.1 (List.Sublist.eq_of_length List.filter_sublist e)
      have : noR r l = true := by rw [noR_iff]; intro s hs; simpa using h3 s hs
      rw [h] at this; cases this
    omega
theorem noR_append {r : Int} {a b : List (Int × Int)} : noR r (a ++ b) = true ↔ noR r a = true ∧ noR r b = true := by simp [noR]
theorem ofR_wo {r q : Int} (h : q ≠ r) (l : List (Int × Int)) : ofR q (woL r l) = ofR q l := by
  unfold ofR woL
  rw [List.filter_filter]
  apply List.filter_congr
  intro x _
  by_cases hx : x.1 = q
  · simp [hx, h]
  · simp [hx]
theorem of_wo_length (r : Int) (l : List (Int × Int)) : (ofR r l).length + (woL r l).length = l.length := by
  induction l with
  | nil => rfl
  | cons s l ih =>
    by_cases h : s.1 = r
    · simp only [ofR, woL] at ih ⊢
      simp [h]
      simp at ih
      omega
    · simp only [ofR, woL] at ih ⊢
      simp [h]
      simp at ih
      omega

/-- A route's request, and what stands around it. -/
theorem route_parts {l : List (Int × Int)} (h : isR l = true) {s : Int × Int} (hs : s ∈ l) : 0 ≤ s.1 ∧ ∃ a b c, l = a ++ (s.1, 0) :: (b ++ (s.1, 1) :: c) ∧ noR s.1 (a ++ b ++ c) = true := by
  obtain ⟨h0, h1⟩ := isR_iff.1 h s hs
  refine ⟨h0, ?_⟩
  have h2 : l.filter (fun x => decide (x.1 = s.1)) = (s.1, 0) :: [(s.1, 1)] := h1
  rw [List.filter_eq_cons_iff] at h2
  obtain ⟨a, l2, rfl, ha, _, h3⟩ := h2
  rw [List.filter_eq_cons_iff] at h3
  obtain ⟨b, c, rfl, hb, _, hc⟩ := h3
  rw [List.filter_eq_nil_iff] at hc
  refine ⟨a, b, c, rfl, ?_⟩
  rw [noR_append, noR_append]
  refine ⟨⟨noR_iff.2 fun x hx => by simpa using ha x hx, noR_iff.2 fun x hx => by simpa using hb x hx⟩, noR_iff.2 fun x hx => by simpa using hc x hx⟩

theorem with_ofR_own {r : Int} (a b c : List (Int × Int)) (h : noR r (a ++ b ++ c) = true) : ofR r (a ++ (r, 0) :: (b ++ (r, 1) :: c)) = [(r, 0), (r, 1)] := by
  rw [noR_append, noR_append] at h
  rw [ofR_append, ofR_cons_same (s := (r, 0)) rfl, ofR_append, ofR_cons_same (s := (r, 1)) rfl, noR_ofR.1 h.1.1, noR_ofR.1 h.1.2, noR_ofR.1 h.2]
  rfl
theorem with_ofR_other {r q : Int} (hq : r ≠ q) (a b c : List (Int × Int)) : ofR q (a ++ (r, 0) :: (b ++ (r, 1) :: c)) = ofR q (a ++ b ++ c) := by
  rw [ofR_append, ofR_cons_other hq, ofR_append, ofR_cons_other hq, ofR_append, ofR_append, List.append_assoc]

/-- A route with a request more. -/
theorem isR_with {l : List (Int × Int)} {r i j : Int} (hm : mayW l r i j = true) (h : isR l = true) : isR (withL l r i.toNat j.toNat) = true := by
  obtain ⟨h1, h2, h3, h4, h5, h6⟩ := mayW_iff.1 hm
  obtain ⟨a, b, c, rfl, ha, hb⟩ := parts (l := l) (i := i.toNat) (j := j.toNat) (by omega) (by omega)
  rw [← ha, ← hb, withL_parts, isR_iff]
  intro s hs
  by_cases hr : r = s.1
  · rw [← hr]
    exact ⟨h4, with_ofR_own a b c h6⟩
  · rw [with_ofR_other hr]
    have hs' : s ∈ a ++ b ++ c := by
      simp only [List.mem_append, List.mem_cons] at hs ⊢
      rcases hs with hs | rfl | hs | rfl | hs
      · exact .inl (.inl hs)
      · exact absurd rfl hr
      · exact .inl (.inr hs)
      · exact absurd rfl hr
      · exact .inr hs
    exact isR_iff.1 h s hs'
theorem wo_with {l : List (Int × Int)} {r i j : Int} (hm : mayW l r i j = true) : woL r (withL l r i.toNat j.toNat) = l := by
  obtain ⟨h1, h2, h3, h4, h5, h6⟩ := mayW_iff.1 hm
  obtain ⟨a, b, c, rfl, ha, hb⟩ := parts (l := l) (i := i.toNat) (j := j.toNat) (by omega) (by omega)
  rw [← ha, ← hb, withL_parts, wo_append, wo_own, wo_append, wo_own]
  rw [noR_append, noR_append] at h6
  rw [wo_self h6.1.1, wo_self h6.1.2, wo_self h6.2, List.append_assoc]
theorem ix_parts (a b c : List (Int × Int)) {r : Int} (h : noR r (a ++ b ++ c) = true) : ixV (r, 0) (a ++ (r, 0) :: (b ++ (r, 1) :: c)) = a.length ∧ ixV (r, 1) (a ++ (r, 0) :: (b ++ (r, 1) :: c)) = (a.length + b.length + 1 : Nat) := by
  rw [noR_append, noR_append, noR_iff, noR_iff] at h
  refine ⟨?_, ?_⟩
  · unfold ixV
    rw [ixF_at (fun x hx e => h.1.1 x hx (by rw [e]))]
    simp
  · have e : a ++ (r, 0) :: (b ++ (r, 1) :: c) = (a ++ (r, 0) :: b) ++ (r, 1) :: c := by simp
    unfold ixV
    rw [e, ixF_at]
    · simp; omega
    · intro x hx
      simp only [List.mem_append, List.mem_cons] at hx
      rcases hx with hx | rfl | hx
      · exact fun e => h.1.1 x hx (by rw [e])
      · simp
      · exact fun e => h.1.2 x hx (by rw [e])
theorem ix_with {l : List (Int × Int)} {r i j : Int} (hm : mayW l r i j = true) : ixV (r, 0) (withL l r i.toNat j.toNat) = i ∧ ixV (r, 1) (withL l r i.toNat j.toNat) = j + 1 := by
  obtain ⟨h1, h2, h3, h4, h5, h6⟩ := mayW_iff.1 hm
  obtain ⟨a, b, c, rfl, ha, hb⟩ := parts (l := l) (i := i.toNat) (j := j.toNat) (by omega) (by omega)
  rw [← ha, ← hb, withL_parts]
  have := ix_parts a b c h6
  rw [this.1, this.2]
  omega
theorem drops_half {l : List (Int × Int)} (h : isR l = true) : dropsN l * 2 = l.length := by
  have h1 := (scan_isR l).1.2 h
  rwa [(scan_isR l).2 h] at h1
theorem picks_half {l : List (Int × Int)} (h : isR l = true) : (picksL l).length * 2 = l.length := by
  have hk : ∀ s ∈ l, s.2 = 0 ∨ s.2 = 1 := by
    intro s hs
    have h2 := (isR_iff.1 h s hs).2
    have h3 : s ∈ ofR s.1 l := mem_ofR.2 ⟨hs, rfl⟩
    rw [h2] at h3
    simp only [List.mem_cons, List.not_mem_nil, or_false] at h3
    rcases h3 with h3 | h3 <;> rw [h3] <;> simp
  have h1 := drops_half h
  have h2 : ∀ m : List (Int × Int), (∀ s ∈ m, s.2 = 0 ∨ s.2 = 1) → (picksL m).length + dropsN m = m.length := by
    intro m
    induction m with
    | nil => intro _; rfl
    | cons s m ih =>
      intro hm
      have ih := ih fun x hx => hm x (List.mem_cons_of_mem _ hx)
      simp only [picksL, dropsN, List.length_map] at ih ⊢
      rcases hm s (List.mem_cons_self ..) with h | h
      · simp [h]; omega
      · simp [h]; omega
  have := h2 l hk
  omega

/-- Without a request, and with it again. -/
theorem back {l : List (Int × Int)} (h : isR l = true) {s : Int × Int} (hs : s ∈ l) (hl : l.length ≤ 16) :
    isR (woL s.1 l) = true ∧ (woL s.1 l).length + 2 = l.length ∧ mayW (woL s.1 l) s.1 (ixV (s.1, 0) l) (ixV (s.1, 1) l - 1) = true ∧ withV (woL s.1 l) s.1 (ixV (s.1, 0) l) (ixV (s.1, 1) l - 1) = l := by
  have hr := isR_iff.1 h
  have hlen := of_wo_length s.1 l
  rw [(hr s hs).2] at hlen
  have h1 : isR (woL s.1 l) = true := by
    rw [isR_iff]
    intro x hx
    have hx' : x ∈ l ∧ x.1 ≠ s.1 := by simpa [woL] using hx
    rw [ofR_wo hx'.2]
    exact hr x hx'.1
  obtain ⟨h0, a, b, c, e, hn⟩ := route_parts h hs
  have hw : woL s.1 l = a ++ b ++ c := by
    have hn' := hn
    rw [noR_append, noR_append] at hn'
    rw [e, wo_append, wo_own, wo_append, wo_own, wo_self hn'.1.1, wo_self hn'.1.2, wo_self hn'.2, List.append_assoc]
  have hix := ix_parts a b c hn
  rw [← e] at hix
  have hm : mayW (woL s.1 l) s.1 (ixV (s.1, 0) l) (ixV (s.1, 1) l - 1) = true := by
    rw [mayW_iff, hix.1, hix.2, hw]
    simp only [List.length_append] at hlen ⊢
    rw [hw] at hlen
    simp at hlen
    refine ⟨by omega, by omega, by omega, h0, by omega, hn⟩
  refine ⟨h1, by simp at hlen; omega, hm, ?_⟩
  unfold withV
  rw [if_pos hm, hix.1, hix.2, hw]
  rw [show ((a.length : Nat) : Int).toNat = a.length by simp, show (((a.length + b.length + 1 : Nat) : Int) - 1).toNat = a.length + b.length by omega, withL_parts]
  exact e.symm

end Go.Proofs.YteefkijmodcijaaDoor.Route



/-
  Rows of stops, in plain Lean: which are routes, as one definition says it and as one walk tells it. No program is spoken of here.
-/
namespace Go.Proofs.YteefkijmodcijaaDoor.Route

/-- The stops of a request. -/
def ofR (r : Int) (l : List (Int × Int)) : List (Int × Int) := l.filter fun s => decide (s.1 = r)
/-- A row is a route. -/
def isR (l : List (Int × Int)) : Bool := l.all fun s => decide (0 ≤ s.1) && decide (ofR s.1 l = [(s.1, 0), (s.1, 1)])
def checkV (l : List (Int × Int)) : Int := if 16 < l.length then 11 else if isR l then 0 else 8
def picksL (l : List (Int × Int)) : List Int := (l.filter fun s => decide (s.2 = 0)).map fun s => s.1
def dropsN (l : List (Int × Int)) : Nat := (l.filter fun s => decide (s.2 = 1)).length
def reqsL (l : List (Int × Int)) : List Int := if decide (l.length ≤ 16) && isR l then picksL l else []
def cnt (s : Int × Int) (l : List (Int × Int)) : Nat := (l.filter fun x => decide (x = s)).length
def woL (r : Int) (l : List (Int × Int)) : List (Int × Int) := l.filter fun s => decide (s.1 ≠ r)

theorem isR_iff {l : List (Int × Int)} : isR l = true ↔ ∀ s ∈ l, 0 ≤ s.1 ∧ ofR s.1 l = [(s.1, 0), (s.1, 1)] := by
  unfold isR
  rw [List.all_eq_true]
  constructor
  · intro h s hs
    have := h s hs
    rw [Bool.and_eq_true, decide_eq_true_eq, decide_eq_true_eq] at this
    exact this
  · intro h s hs
    rw [Bool.and_eq_true, decide_eq_true_eq, decide_eq_true_eq]
    exact h s hs
theorem ofR_append (r : Int) (a b : List (Int × Int)) : ofR r (a ++ b) = ofR r a ++ ofR r b := List.filter_append ..
theorem ofR_cons_same {r : Int} {s : Int × Int} (h : s.1 = r) (a : List (Int × Int)) : ofR r (s :: a) = s :: ofR r a := by simp [ofR, h]
theorem ofR_cons_other {r : Int} {s : Int × Int} (h : s.1 ≠ r) (a : List (Int × Int)) : ofR r (s :: a) = ofR r a := by simp [ofR, h]
theorem mem_ofR {r : Int} {s : Int × Int} {l : List (Int × Int)} : s ∈ ofR r l ↔ s ∈ l ∧ s.1 = r := by simp [ofR]
theorem cnt_append (s : Int × Int) (a b : List (Int × Int)) : cnt s (a ++ b) = cnt s a + cnt s b := by simp [cnt]
theorem cnt_cons_same (s : Int × Int) (a : List (Int × Int)) : cnt s (s :: a) = cnt s a + 1 := by simp [cnt]
theorem cnt_cons_other {s x : Int × Int} (h : x ≠ s) (a : List (Int × Int)) : cnt s (x :: a) = cnt s a := by simp [cnt, h]
theorem cnt_pos {s : Int × Int} {l : List (Int × Int)} (h : s ∈ l) : 0 < cnt s l := by
  unfold cnt
  exact List.length_pos_of_mem (a := s) (by simp [h])
theorem mem_of_cnt {s : Int × Int} {l : List (Int × Int)} (h : 0 < cnt s l) : s ∈ l := by
  unfold cnt at h
  obtain ⟨x, hx⟩ := List.exists_mem_of_length_pos h
  rw [List.mem_filter, decide_eq_true_eq] at hx
  exact hx.2 ▸ hx.1
theorem cnt_ofR (s : Int × Int) (l : List (Int × Int)) : cnt s (ofR s.1 l) = cnt s l := by
  unfold cnt ofR
  rw [List.filter_filter]
  congr 1
  apply List.filter_congr
  intro x _
  by_cases h : x = s
  · simp [h]
  · simp [h]

/-! ### As one definition says it -/

def okAt (l pre : List (Int × Int)) (s : Int × Int) : Bool :=
  decide (0 ≤ s.1) && decide (0 ≤ s.2) && decide (s.2 < 2) && decide (cnt (s.1, 0) l = 1) && decide (cnt (s.1, 1) l = 1) && !(decide (s.2 = 1) && !decide (cnt (s.1, 0) pre = 1))
def okFrom (l : List (Int × Int)) : List (Int × Int) → List (Int × Int) → Bool
  | _, [] => true
  | pre, s :: rest => okAt l pre s && okFrom l (pre ++ [s]) rest

theorem okFrom_iff {l : List (Int × Int)} : ∀ {rest pre : List (Int × Int)}, okFrom l pre rest = true ↔ ∀ p s q, rest = p ++ s :: q → okAt l (pre ++ p) s = true
  | [], pre => by
    refine ⟨fun _ p s q h => ?_, fun _ => rfl⟩
    cases p <;> cases h
  | x :: rest, pre => by
    rw [okFrom, Bool.and_eq_true, okFrom_iff (rest := rest)]
    constructor
    · rintro ⟨h1, h2⟩ p s q h
      cases p with
      | nil =>
        simp only [List.nil_append, List.cons.injEq] at h
        obtain ⟨rfl, rfl⟩ := h
        rw [List.append_nil]
        exact h1
      | cons y p =>
        simp only [List.cons_append, List.cons.injEq] at h
        obtain ⟨rfl, rfl⟩ := h
        have := h2 p s q rfl
        rwa [List.append_assoc] at this
    · intro h
      refine ⟨by have := h [] x rest rfl; rwa [List.append_nil] at this, fun p s q e => ?_⟩
      have := h (x :: p) s q (by rw [e]; rfl)
      rwa [List.append_assoc]

theorem okAt_iff {l pre : List (Int × Int)} {s : Int × Int} : okAt l pre s = true ↔ 0 ≤ s.1 ∧ (s.2 = 0 ∨ s.2 = 1) ∧ cnt (s.1, 0) l = 1 ∧ cnt (s.1, 1) l = 1 ∧ (s.2 = 1 → cnt (s.1, 0) pre = 1) := by
  unfold okAt
  simp only [Bool.and_eq_true, decide_eq_true_eq, Bool.not_eq_true', Bool.and_eq_false_iff, decide_eq_false_iff_not, Bool.not_eq_false']
  constructor
  · rintro ⟨⟨⟨⟨⟨h1, h2⟩, h3⟩, h4⟩, h5⟩, h6⟩
    refine ⟨h1, by omega, h4, h5, fun h => ?_⟩
    rcases h6 with h6 | h6
    · exact absurd h h6
    · exact h6
  · rintro ⟨h1, h2, h3, h4, h5⟩
    refine ⟨⟨⟨⟨⟨h1, by omega⟩, by omega⟩, h3⟩, h4⟩, ?_⟩
    rcases h2 with h2 | h2
    · exact .inl (by omega)
    · exact .inr (h5 h2)

theorem two_of {a b : Int × Int} (hab : a ≠ b) : ∀ {f : List (Int × Int)}, (∀ x ∈ f, x = a ∨ x = b) → cnt a f = 1 → cnt b f = 1 → f = [a, b] ∨ f = [b, a]
  | [], _, h, _ => by simp [cnt] at h
  | x :: f, hm, h1, h2 => by
    have hone : ∀ {c d : Int × Int}, (∀ x ∈ f, x = d ∨ x = c) → cnt d f = 0 → cnt c f = 1 → f = [c] := by
      intro c d hx hd hc
      have hall : ∀ x ∈ f, x = c := fun x hx' => by
        rcases hx x hx' with rfl | h
        · have := cnt_pos hx'; omega
        · exact h
      have hl : f.length = 1 := by
        rw [← hc]
        unfold cnt
        rw [List.filter_eq_self.2]
        intro y hy
        simp [hall y hy]
      match f, hl with
      | [y], _ => rw [hall y (by simp)]
    rcases hm x (List.mem_cons_self ..) with rfl | rfl
    · rw [cnt_cons_same] at h1
      rw [cnt_cons_other hab] at h2
      exact .inl (by rw [hone (fun y hy => hm y (List.mem_cons_of_mem _ hy)) (by omega) h2])
    · rw [cnt_cons_same] at h2
      rw [cnt_cons_other (Ne.symm hab)] at h1
      exact .inr (by rw [hone (fun y hy => (hm y (List.mem_cons_of_mem _ hy)).symm) (by omega) h1])

theorem split3 {r : Int} {l p q : List (Int × Int)} {s : Int × Int} (hl : l = p ++ s :: q) (hs : s.1 = r) (h : ofR r l = [(r, 0), (r, 1)]) : (s = (r, 0) ∧ ofR r p = [] ∧ ofR r q = [(r, 1)]) ∨ (s = (r, 1) ∧ ofR r p = [(r, 0)] ∧ ofR r q = []) := by
  rw [hl, ofR_append, ofR_cons_same hs] at h
  match hp : ofR r p, h with
  | [], h =>
    simp only [List.nil_append, List.cons.injEq] at h
    exact .inl ⟨h.1, rfl, h.2⟩
  | [a], h =>
    simp only [List.cons_append, List.nil_append, List.cons.injEq] at h
    exact .inr ⟨h.2.1, by rw [h.1], h.2.2⟩
  | a :: b :: c, h =>
    simp at h

theorem okFrom_isR (l : List (Int × Int)) : okFrom l [] l = isR l := by
  rw [Bool.eq_iff_iff, okFrom_iff, isR_iff]
  constructor
  · intro h s hs
    have hall : ∀ x ∈ l, 0 ≤ x.1 ∧ (x.2 = 0 ∨ x.2 = 1) ∧ cnt (x.1, 0) l = 1 ∧ cnt (x.1, 1) l = 1 := by
      intro x hx
      obtain ⟨p, q, e⟩ := List.append_of_mem hx
      have := okAt_iff.1 (h p x q e)
      exact ⟨this.1, this.2.1, this.2.2.1, this.2.2.2.1⟩
    obtain ⟨h1, h2, h3, h4⟩ := hall s hs
    refine ⟨h1, ?_⟩
    have hne : ((s.1, 0) : Int × Int) ≠ (s.1, 1) := by simp
    rcases two_of hne (f := ofR s.1 l) (fun x hx => by
      rw [mem_ofR] at hx
      obtain ⟨_, hk, _⟩ := hall x hx.1
      rcases hk with hk | hk
      · exact .inl (Prod.ext hx.2 hk)
      · exact .inr (Prod.ext hx.2 hk)) (by have := cnt_ofR (s.1, 0) l; rw [h3] at this; exact this) (by have := cnt_ofR (s.1, 1) l; rw [h4] at this; exact this) with h5 | h5
    · exact h5
    · exfalso
      have h6 : l.filter (fun x => decide (x.1 = s.1)) = (s.1, 1) :: [(s.1, 0)] := h5
      rw [List.filter_eq_cons_iff] at h6
      obtain ⟨p, q, e, hp, _, _⟩ := h6
      have h7 := (okAt_iff.1 (h p (s.1, 1) q e)).2.2.2.2 rfl
      have h8 := mem_of_cnt (s := (s.1, 0)) (l := p) (by rw [List.nil_append] at h7; simp only at h7; omega)
      exact hp _ h8 (by simp)
  · intro h p s q e
    have hs : s ∈ l := by rw [e]; simp
    obtain ⟨h1, h2⟩ := h s hs
    have e0 : cnt (s.1, 0) l = 1 := by rw [← cnt_ofR (s.1, 0) l]; simp only; rw [h2]; simp [cnt]
    have e1 : cnt (s.1, 1) l = 1 := by rw [← cnt_ofR (s.1, 1) l]; simp only; rw [h2]; simp [cnt]
    rw [okAt_iff, List.nil_append]
    rcases split3 e rfl h2 with ⟨h3, h4, _⟩ | ⟨h3, h4, _⟩
    · have h5 : s.2 = 0 := by rw [h3]
      exact ⟨h1, .inl h5, e0, e1, fun h => by omega⟩
    · have h5 : s.2 = 1 := by rw [h3]
      refine ⟨h1, .inr h5, e0, e1, fun _ => ?_⟩
      rw [← cnt_ofR (s.1, 0) p]
      simp only
      rw [h4]
      simp [cnt]

/-! ### As one walk tells it -/

def okS (pre : List (Int × Int)) (s : Int × Int) : Bool := decide (0 ≤ s.1) && decide (s.2 = (ofR s.1 pre).length)
/-- How far the walk comes. -/
def scan : List (Int × Int) → List (Int × Int) → List (Int × Int)
  | pre, [] => pre
  | pre, s :: rest => if okS pre s then scan (pre ++ [s]) rest else pre
inductive Steps : List (Int × Int) → Prop
  | nil : Steps []
  | snoc {q : List (Int × Int)} {s : Int × Int} : Steps q → okS q s = true → Steps (q ++ [s])

theorem scan_steps : ∀ {rest pre : List (Int × Int)}, Steps pre → Steps (scan pre rest) ∧ ∃ t, pre ++ rest = scan pre rest ++ t
  | [], pre, h => ⟨h, [], by simp [scan]⟩
  | s :: rest, pre, h => by
    unfold scan
    split
    · rename_i hs
      obtain ⟨h1, t, h2⟩ := scan_steps (rest := rest) (Steps.snoc h hs)
      exact ⟨h1, t, by rw [← h2]; simp⟩
    · exact ⟨h, s :: rest, rfl⟩
theorem scan_all : ∀ {rest pre : List (Int × Int)}, (∀ p s q, rest = p ++ s :: q → okS (pre ++ p) s = true) → scan pre rest = pre ++ rest
  | [], pre, h => by simp [scan]
  | s :: rest, pre, h => by
    have h1 : okS pre s = true := by have := h [] s rest rfl; rwa [List.append_nil] at this
    rw [scan, if_pos h1, scan_all (rest := rest)]
    · simp
    · intro p x q e
      have := h (s :: p) x q (by rw [e]; rfl)
      rwa [List.append_assoc]

def rangeL (r : Int) (n : Nat) : List (Int × Int) := (List.range n).map fun (k : Nat) => (r, (k : Int))
theorem steps_of {q : List (Int × Int)} (h : Steps q) (r : Int) : ofR r q = rangeL r (ofR r q).length := by
  induction h with
  | nil => rfl
  | @snoc q s _ hs ih =>
    rw [ofR_append]
    by_cases hr : s.1 = r
    · rw [ofR_cons_same hr, List.length_append]
      simp only [List.length_cons, okS, Bool.and_eq_true, decide_eq_true_eq] at hs ⊢
      have e : s = (r, ((ofR r q).length : Int)) := Prod.ext hr (by rw [← hr]; exact hs.2)
      simp only [ofR, List.filter_nil, List.length_nil, Nat.zero_add]
      rw [rangeL, List.range_succ, List.map_append, ← rangeL]
      simp only [List.map_cons, List.map_nil]
      have ih' : List.filter (fun s => decide (s.1 = r)) q = rangeL r (List.filter (fun s => decide (s.1 = r)) q).length := ih
      rw [← ih']
      exact congrArg (fun x => List.filter (fun s => decide (s.1 = r)) q ++ [x]) e
    · rw [ofR_cons_other hr]
      simpa [ofR] using ih

def othersN (l : List (Int × Int)) : Nat := (l.filter fun s => !decide (s.2 = 0) && !decide (s.2 = 1)).length

theorem steps_count {q : List (Int × Int)} (h : Steps q) : ∃ os : List Int, os.Nodup ∧ (∀ r, r ∈ os ↔ (ofR r q).length = 1) ∧ q.length = 2 * dropsN q + os.length + othersN q := by
  induction h with
  | nil => exact ⟨[], List.nodup_nil, fun r => by simp [ofR], by simp [dropsN, othersN]⟩
  | @snoc q s hq hs ih =>
    obtain ⟨os, hn, hm, hl⟩ := ih
    simp only [okS, Bool.and_eq_true, decide_eq_true_eq] at hs
    have hsame : ∀ r, s.1 ≠ r → ofR r (q ++ [s]) = ofR r q := fun r hr => by rw [ofR_append, ofR_cons_other hr]; simp [ofR]
    have hown : (ofR s.1 (q ++ [s])).length = (ofR s.1 q).length + 1 := by rw [ofR_append, ofR_cons_same rfl]; simp [ofR]
    by_cases h0 : s.2 = 0
    · refine ⟨s.1 :: os, List.nodup_cons.2 ⟨fun hi => ?_, hn⟩, fun r => ?_, ?_⟩
      · have := (hm _).1 hi; omega
      · by_cases hr : s.1 = r
        · subst hr
          rw [hown]
          exact ⟨fun _ => by omega, fun _ => List.mem_cons_self ..⟩
        · rw [hsame r hr, List.mem_cons, hm]
          constructor
          · rintro (h | h)
            · exact absurd h.symm hr
            · exact h
          · exact .inr
      · simp only [List.length_append, List.length_cons, List.length_nil, dropsN, othersN, List.filter_append] at hl ⊢
        simp [h0]
        omega
    · by_cases h1 : s.2 = 1
      · have hi : s.1 ∈ os := (hm _).2 (by omega)
        refine ⟨os.erase s.1, hn.erase _, fun r => ?_, ?_⟩
        · by_cases hr : s.1 = r
          · subst hr
            rw [hown, hn.mem_erase_iff]
            exact ⟨fun h => absurd rfl h.1, fun h => by omega⟩
          · rw [hsame r hr, hn.mem_erase_iff, hm]
            exact ⟨fun h => h.2, fun h => ⟨fun e => hr e.symm, h⟩⟩
        · have := List.length_erase_of_mem hi
          have hp := List.length_pos_of_mem hi
          simp only [List.length_append, List.length_cons, List.length_nil, dropsN, othersN, List.filter_append] at hl ⊢
          simp [h1]
          omega
      · refine ⟨os, hn, fun r => ?_, ?_⟩
        · by_cases hr : s.1 = r
          · subst hr
            rw [hown, hm]
            omega
          · rw [hsame r hr, hm]
        · simp only [List.length_append, List.length_cons, List.length_nil, dropsN, othersN, List.filter_append] at hl ⊢
          simp [h0, h1]
          omega

theorem steps_nonneg {q : List (Int × Int)} (h : Steps q) : ∀ s ∈ q, 0 ≤ s.1 := by
  induction h with
  | nil => intro s hs; cases hs
  | @snoc q s _ hs ih =>
    intro x hx
    rcases List.mem_append.1 hx with hx | hx
    · exact ih x hx
    · rw [List.mem_singleton.1 hx]
      simp only [okS, Bool.and_eq_true, decide_eq_true_eq] at hs
      exact hs.1

/-- What the walk tells: all was dropped, just if it is a route; then it went all along. -/
theorem scan_isR (l : List (Int × Int)) : (dropsN (scan [] l) * 2 = l.length ↔ isR l = true) ∧ (isR l = true → scan [] l = l) := by
  have key : isR l = true → scan [] l = l ∧ dropsN l * 2 = l.length := by
    intro h
    rw [isR_iff] at h
    have e : scan [] l = l := by
      have := scan_all (rest := l) (pre := []) (fun p s q e => by
        have hs : s ∈ l := by rw [e]; simp
        obtain ⟨h1, h2⟩ := h s hs
        simp only [okS, Bool.and_eq_true, decide_eq_true_eq, List.nil_append]
        refine ⟨h1, ?_⟩
        rcases split3 e rfl h2 with ⟨h3, h4, _⟩ | ⟨h3, h4, _⟩
        · rw [h4, h3]; rfl
        · rw [h4, h3]; rfl)
      simpa using this
    refine ⟨e, ?_⟩
    have hst := (scan_steps (rest := l) Steps.nil).1
    rw [e] at hst
    obtain ⟨os, hn, hm, hl⟩ := steps_count hst
    have hos : os = [] := by
      match os, hm with
      | [], _ => rfl
      | r :: os, hm =>
        have h1 := (hm r).1 (List.mem_cons_self ..)
        obtain ⟨s, hs⟩ := List.exists_mem_of_length_pos (show 0 < (ofR r l).length by omega)
        rw [mem_ofR] at hs
        have h2 := (h s hs.1).2
        rw [hs.2] at h2
        rw [h2] at h1
        simp at h1
    have hoth : othersN l = 0 := by
      unfold othersN
      rw [List.length_eq_zero_iff, List.filter_eq_nil_iff]
      intro s hs
      have h2 := (h s hs).2
      have h3 : s ∈ ofR s.1 l := mem_ofR.2 ⟨hs, rfl⟩
      rw [h2] at h3
      simp only [List.mem_cons, List.not_mem_nil, or_false] at h3
      rcases h3 with h3 | h3 <;> rw [h3] <;> simp
    rw [hos, hoth] at hl
    simp at hl
    omega
  refine ⟨⟨fun hd => ?_, fun h => ?_⟩, fun h => (key h).1⟩
  · obtain ⟨hst, t, ht⟩ := scan_steps (rest := l) Steps.nil
    rw [List.nil_append] at ht
    obtain ⟨os, hn, hm, hl⟩ := steps_count hst
    have hlen := congrArg List.length ht
    rw [List.length_append] at hlen
    have hos : os.length = 0 := by omega
    have hoth : othersN (scan [] l) = 0 := by omega
    have ht0 : t = [] := List.eq_nil_of_length_eq_zero (by omega)
    have e : l = scan [] l := by rw [ht0, List.append_nil] at ht; exact ht
    rw [← e] at hst hm hoth
    obtain rfl : os = [] := List.eq_nil_of_length_eq_zero hos
    rw [isR_iff]
    intro s hs
    refine ⟨steps_nonneg hst s hs, ?_⟩
    have h1 := steps_of hst s.1
    have h2 : s ∈ ofR s.1 l := mem_ofR.2 ⟨hs, rfl⟩
    have h3 := List.length_pos_of_mem h2
    have h4 : (ofR s.1 l).length ≠ 1 := fun h => by have := (hm s.1).2 h; cases this
    have h5 : ¬ 3 ≤ (ofR s.1 l).length := by
      intro h
      have h6 : ((s.1, 2) : Int × Int) ∈ ofR s.1 l := by
        rw [h1, rangeL, List.mem_map]
        exact ⟨2, by rw [List.mem_range]; omega, rfl⟩
      unfold othersN at hoth
      rw [List.length_eq_zero_iff, List.filter_eq_nil_iff] at hoth
      exact hoth _ (mem_ofR.1 h6).1 (by simp)
    have h7 : (ofR s.1 l).length = 2 := by omega
    exact h1.trans (by rw [h7]; rfl)
  · rw [(key h).1]; exact (key h).2

end Go.Proofs.YteefkijmodcijaaDoor.Route



namespace Go.Proofs.YteclpblfleakhaaGreatDoor.Route
def ofR (r : Int) (l : List (Int × Int)) : List (Int × Int) := l.filter fun s => decide (s.1 = r)
def isR (l : List (Int × Int)) : Bool := l.all fun s => decide (0 ≤ s.1) && decide (ofR s.1 l = [(s.1, 0), (s.1, 1)])
def checkV (l : List (Int × Int)) : Int := if 16 < l.length then 11 else if isR l then 0 else 8
def picksL (l : List (Int × Int)) : List Int := (l.filter fun s => decide (s.2 = 0)).map fun s => s.1
def dropsN (l : List (Int × Int)) : Nat := (l.filter fun s => decide (s.2 = 1)).length
def reqsL (l : List (Int × Int)) : List Int := if decide (l.length ≤ 16) && isR l then picksL l else []
def cnt (s : Int × Int) (l : List (Int × Int)) : Nat := (l.filter fun x => decide (x = s)).length
def woL (r : Int) (l : List (Int × Int)) : List (Int × Int) := l.filter fun s => decide (s.1 ≠ r)
theorem isR_iff {l : List (Int × Int)} : isR l = true ↔ ∀ s ∈ l, 0 ≤ s.1 ∧ ofR s.1 l = [(s.1, 0), (s.1, 1)] := by
 unfold isR
 rw [List.all_eq_true]
 constructor
 · intro h s hs
   have := h s hs
   rw [Bool.and_eq_true, decide_eq_true_eq, decide_eq_true_eq] at this
   exact this
 · intro h s hs
   rw [Bool.and_eq_true, decide_eq_true_eq, decide_eq_true_eq]
   exact h s hs
theorem ofR_append (r : Int) (a b : List (Int × Int)) : ofR r (a ++ b) = ofR r a ++ ofR r b := List.filter_append ..
theorem ofR_cons_same {r : Int} {s : Int × Int} (h : s.1 = r) (a : List (Int × Int)) : ofR r (s :: a) = s :: ofR r a := by simp [ofR, h]
theorem ofR_cons_other {r : Int} {s : Int × Int} (h : s.1 ≠ r) (a : List (Int × Int)) : ofR r (s :: a) = ofR r a := by simp [ofR, h]
theorem mem_ofR {r : Int} {s : Int × Int} {l : List (Int × Int)} : s ∈ ofR r l ↔ s ∈ l ∧ s.1 = r := by simp [ofR]
theorem cnt_append (s : Int × Int) (a b : List (Int × Int)) : cnt s (a ++ b) = cnt s a + cnt s b := by simp [cnt]
theorem cnt_cons_same (s : Int × Int) (a : List (Int × Int)) : cnt s (s :: a) = cnt s a + 1 := by simp [cnt]
theorem cnt_cons_other {s x : Int × Int} (h : x ≠ s) (a : List (Int × Int)) : cnt s (x :: a) = cnt s a := by simp [cnt, h]
theorem cnt_pos {s : Int × Int} {l : List (Int × Int)} (h : s ∈ l) : 0 < cnt s l := by
 unfold cnt
 exact List.length_pos_of_mem (a := s) (by simp [h])
theorem mem_of_cnt {s : Int × Int} {l : List (Int × Int)} (h : 0 < cnt s l) : s ∈ l := by
 unfold cnt at h
 obtain ⟨x, hx⟩ := List.exists_mem_of_length_pos h
 rw [List.mem_filter, decide_eq_true_eq] at hx
 exact hx.2 ▸ hx.1
theorem cnt_ofR (s : Int × Int) (l : List (Int × Int)) : cnt s (ofR s.1 l) = cnt s l := by
 unfold cnt ofR
 rw [List.filter_filter]
 congr 1
 apply List.filter_congr
 intro x _
 by_cases h : x = s
 · simp [h]
 · simp [h]
def okAt (l pre : List (Int × Int)) (s : Int × Int) : Bool :=
 decide (0 ≤ s.1) && decide (0 ≤ s.2) && decide (s.2 < 2) && decide (cnt (s.1, 0) l = 1) && decide (cnt (s.1, 1) l = 1) && !(decide (s.2 = 1) && !decide (cnt (s.1, 0) pre = 1))
def okFrom (l : List (Int × Int)) : List (Int × Int) → List (Int × Int) → Bool
 | _, [] => true
 | pre, s :: rest => okAt l pre s && okFrom l (pre ++ [s]) rest
theorem okFrom_iff {l : List (Int × Int)} : ∀ {rest pre : List (Int × Int)}, okFrom l pre rest = true ↔ ∀ p s q, rest = p ++ s :: q → okAt l (pre ++ p) s = true
 | [], pre => by
  refine ⟨fun _ p s q h => ?_, fun _ => rfl⟩
  cases p <;> cases h
 | x :: rest, pre => by
  rw [okFrom, Bool.and_eq_true, okFrom_iff (rest := rest)]
  constructor
  · rintro ⟨h1, h2⟩ p s q h
    cases p with
    | nil =>
     simp only [List.nil_append, List.cons.injEq] at h
     obtain ⟨rfl, rfl⟩ := h
     rw [List.append_nil]
     exact h1
    | cons y p =>
     simp only [List.cons_append, List.cons.injEq] at h
     obtain ⟨rfl, rfl⟩ := h
     have := h2 p s q rfl
     rwa [List.append_assoc] at this
  · intro h
    refine ⟨by have := h [] x rest rfl; rwa [List.append_nil] at this, fun p s q e => ?_⟩
    have := h (x :: p) s q (by rw [e]; rfl)
    rwa [List.append_assoc]
theorem okAt_iff {l pre : List (Int × Int)} {s : Int × Int} : okAt l pre s = true ↔ 0 ≤ s.1 ∧ (s.2 = 0 ∨ s.2 = 1) ∧ cnt (s.1, 0) l = 1 ∧ cnt (s.1, 1) l = 1 ∧ (s.2 = 1 → cnt (s.1, 0) pre = 1) := by
 unfold okAt
 simp only [Bool.and_eq_true, decide_eq_true_eq, Bool.not_eq_true', Bool.and_eq_false_iff, decide_eq_false_iff_not, Bool.not_eq_false']
 constructor
 · rintro ⟨⟨⟨⟨⟨h1, h2⟩, h3⟩, h4⟩, h5⟩, h6⟩
   refine ⟨h1, by omega, h4, h5, fun h => ?_⟩
   rcases h6 with h6 | h6
   · exact absurd h h6
   · exact h6
 · rintro ⟨h1, h2, h3, h4, h5⟩
   refine ⟨⟨⟨⟨⟨h1, by omega⟩, by omega⟩, h3⟩, h4⟩, ?_⟩
   rcases h2 with h2 | h2
   · exact .inl (by omega)
   · exact .inr (h5 h2)
theorem two_of {a b : Int × Int} (hab : a ≠ b) : ∀ {f : List (Int × Int)}, (∀ x ∈ f, x = a ∨ x = b) → cnt a f = 1 → cnt b f = 1 → f = [a, b] ∨ f = [b, a]
 | [], _, h, _ => by simp [cnt] at h
 | x :: f, hm, h1, h2 => by
  have hone : ∀ {c d : Int × Int}, (∀ x ∈ f, x = d ∨ x = c) → cnt d f = 0 → cnt c f = 1 → f = [c] := by
   intro c d hx hd hc
   have hall : ∀ x ∈ f, x = c := fun x hx' => by
    rcases hx x hx' with rfl | h
    · have := cnt_pos hx'; omega
    · exact h
   have hl : f.length = 1 := by
    rw [← hc]
    unfold cnt
    rw [List.filter_eq_self.2]
    intro y hy
    simp [hall y hy]
   match f, hl with
   | [y], _ => rw [hall y (by simp)]
  rcases hm x (List.mem_cons_self ..) with rfl | rfl
  · rw [cnt_cons_same] at h1
    rw [cnt_cons_other hab] at h2
    exact .inl (by rw [hone (fun y hy => hm y (List.mem_cons_of_mem _ hy)) (by omega) h2])
  · rw [cnt_cons_same] at h2
    rw [cnt_cons_other (Ne.symm hab)] at h1
    exact .inr (by rw [hone (fun y hy => (hm y (List.mem_cons_of_mem _ hy)).symm) (by omega) h1])
theorem split3 {r : Int} {l p q : List (Int × Int)} {s : Int × Int} (hl : l = p ++ s :: q) (hs : s.1 = r) (h : ofR r l = [(r, 0), (r, 1)]) : (s = (r, 0) ∧ ofR r p = [] ∧ ofR r q = [(r, 1)]) ∨ (s = (r, 1) ∧ ofR r p = [(r, 0)] ∧ ofR r q = []) := by
 rw [hl, ofR_append, ofR_cons_same hs] at h
 match hp : ofR r p, h with
 | [], h =>
  simp only [List.nil_append, List.cons.injEq] at h
  exact .inl ⟨h.1, rfl, h.2⟩
 | [a], h =>
  simp only [List.cons_append, List.nil_append, List.cons.injEq] at h
  exact .inr ⟨h.2.1, by rw [h.1], h.2.2⟩
 | a :: b :: c, h =>
  simp at h
theorem okFrom_isR (l : List (Int × Int)) : okFrom l [] l = isR l := by
 rw [Bool.eq_iff_iff, okFrom_iff, isR_iff]
 constructor
 · intro h s hs
   have hall : ∀ x ∈ l, 0 ≤ x.1 ∧ (x.2 = 0 ∨ x.2 = 1) ∧ cnt (x.1, 0) l = 1 ∧ cnt (x.1, 1) l = 1 := by
    intro x hx
    obtain ⟨p, q, e⟩ := List.append_of_mem hx
    have := okAt_iff.1 (h p x q e)
    exact ⟨this.1, this.2.1, this.2.2.1, this.2.2.2.1⟩
   obtain ⟨h1, h2, h3, h4⟩ := hall s hs
   refine ⟨h1, ?_⟩
   have hne : ((s.1, 0) : Int × Int) ≠ (s.1, 1) := by simp
   rcases two_of hne (f := ofR s.1 l) (fun x hx => by
    rw [mem_ofR] at hx
    obtain ⟨_, hk, _⟩ := hall x hx.1
    rcases hk with hk | hk
    · exact .inl (Prod.ext hx.2 hk)
    · exact .inr (Prod.ext hx.2 hk)) (by have := cnt_ofR (s.1, 0) l; rw [h3] at this; exact this) (by have := cnt_ofR (s.1, 1) l; rw [h4] at this; exact this) with h5 | h5
   · exact h5
   · exfalso
     have h6 : l.filter (fun x => decide (x.1 = s.1)) = (s.1, 1) :: [(s.1, 0)] := h5
     rw [List.filter_eq_cons_iff] at h6
     obtain ⟨p, q, e, hp, _, _⟩ := h6
     have h7 := (okAt_iff.1 (h p (s.1, 1) q e)).2.2.2.2 rfl
     have h8 := mem_of_cnt (s := (s.1, 0)) (l := p) (by rw [List.nil_append] at h7; simp only at h7; omega)
     exact hp _ h8 (by simp)
 · intro h p s q e
   have hs : s ∈ l := by rw [e]; simp
   obtain ⟨h1, h2⟩ := h s hs
   have e0 : cnt (s.1, 0) l = 1 := by rw [← cnt_ofR (s.1, 0) l]; simp only; rw [h2]; simp [cnt]
   have e1 : cnt (s.1, 1) l = 1 := by rw [← cnt_ofR (s.1, 1) l]; simp only; rw [h2]; simp [cnt]
   rw [okAt_iff, List.nil_append]
   rcases split3 e rfl h2 with ⟨h3, h4, _⟩ | ⟨h3, h4, _⟩
   · have h5 : s.2 = 0 := by rw [h3]
     exact ⟨h1, .inl h5, e0, e1, fun h => by omega⟩
   · have h5 : s.2 = 1 := by rw [h3]
     refine ⟨h1, .inr h5, e0, e1, fun _ => ?_⟩
     rw [← cnt_ofR (s.1, 0) p]
     simp only
     rw [h4]
     simp [cnt]
def okS (pre : List (Int × Int)) (s : Int × Int) : Bool := decide (0 ≤ s.1) && decide (s.2 = (ofR s.1 pre).length)
def scan : List (Int × Int) → List (Int × Int) → List (Int × Int)
 | pre, [] => pre
 | pre, s :: rest => if okS pre s then scan (pre ++ [s]) rest else pre
inductive Steps : List (Int × Int) → Prop
 | nil : Steps []
 | snoc {q : List (Int × Int)} {s : Int × Int} : Steps q → okS q s = true → Steps (q ++ [s])
theorem scan_steps : ∀ {rest pre : List (Int × Int)}, Steps pre → Steps (scan pre rest) ∧ ∃ t, pre ++ rest = scan pre rest ++ t
 | [], pre, h => ⟨h, [], by simp [scan]⟩
 | s :: rest, pre, h => by
  unfold scan
  split
  · rename_i hs
    obtain ⟨h1, t, h2⟩ := scan_steps (rest := rest) (Steps.snoc h hs)
    exact ⟨h1, t, by rw [← h2]; simp⟩
  · exact ⟨h, s :: rest, rfl⟩
theorem scan_all : ∀ {rest pre : List (Int × Int)}, (∀ p s q, rest = p ++ s :: q → okS (pre ++ p) s = true) → scan pre rest = pre ++ rest
 | [], pre, h => by simp [scan]
 | s :: rest, pre, h => by
  have h1 : okS pre s = true := by have := h [] s rest rfl; rwa [List.append_nil] at this
  rw [scan, if_pos h1, scan_all (rest := rest)]
  · simp
  · intro p x q e
    have := h (s :: p) x q (by rw [e]; rfl)
    rwa [List.append_assoc]
def rangeL (r : Int) (n : Nat) : List (Int × Int) := (List.range n).map fun (k : Nat) => (r, (k : Int))
theorem steps_of {q : List (Int × Int)} (h : Steps q) (r : Int) : ofR r q = rangeL r (ofR r q).length := by
 induction h with
 | nil => rfl
 | @snoc q s _ hs ih =>
  rw [ofR_append]
  by_cases hr : s.1 = r
  · rw [ofR_cons_same hr, List.length_append]
    simp only [List.length_cons, okS, Bool.and_eq_true, decide_eq_true_eq] at hs ⊢
    have e : s = (r, ((ofR r q).length : Int)) := Prod.ext hr (by rw [← hr]; exact hs.2)
    simp only [ofR, List.filter_nil, List.length_nil, Nat.zero_add]
    rw [rangeL, List.range_succ, List.map_append, ← rangeL]
    simp only [List.map_cons, List.map_nil]
    have ih' : List.filter (fun s => decide (s.1 = r)) q = rangeL r (List.filter (fun s => decide (s.1 = r)) q).length := ih
    rw [← ih']
    exact congrArg (fun x => List.filter (fun s => decide (s.1 = r)) q ++ [x]) e
  · rw [ofR_cons_other hr]
    simpa [ofR] using ih
def othersN (l : List (Int × Int)) : Nat := (l.filter fun s => !decide (s.2 = 0) && !decide (s.2 = 1)).length
theorem steps_count {q : List (Int × Int)} (h : Steps q) : ∃ os : List Int, os.Nodup ∧ (∀ r, r ∈ os ↔ (ofR r q).length = 1) ∧ q.length = 2 * dropsN q + os.length + othersN q := by
 induction h with
 | nil => exact ⟨[], List.nodup_nil, fun r => by simp [ofR], by simp [dropsN, othersN]⟩
 | @snoc q s hq hs ih =>
  obtain ⟨os, hn, hm, hl⟩ := ih
  simp only [okS, Bool.and_eq_true, decide_eq_true_eq] at hs
  have hsame : ∀ r, s.1 ≠ r → ofR r (q ++ [s]) = ofR r q := fun r hr => by rw [ofR_append, ofR_cons_other hr]; simp [ofR]
  have hown : (ofR s.1 (q ++ [s])).length = (ofR s.1 q).length + 1 := by rw [ofR_append, ofR_cons_same rfl]; simp [ofR]
  by_cases h0 : s.2 = 0
  · refine ⟨s.1 :: os, List.nodup_cons.2 ⟨fun hi => ?_, hn⟩, fun r => ?_, ?_⟩
    · have := (hm _).1 hi; omega
    · by_cases hr : s.1 = r
      · subst hr
        rw [hown]
        exact ⟨fun _ => by omega, fun _ => List.mem_cons_self ..⟩
      · rw [hsame r hr, List.mem_cons, hm]
        constructor
        · rintro (h | h)
          · exact absurd h.symm hr
          · exact h
        · exact .inr
    · simp only [List.length_append, List.length_cons, List.length_nil, dropsN, othersN, List.filter_append] at hl ⊢
      simp [h0]
      omega
  · by_cases h1 : s.2 = 1
    · have hi : s.1 ∈ os := (hm _).2 (by omega)
      refine ⟨os.erase s.1, hn.erase _, fun r => ?_, ?_⟩
      · by_cases hr : s.1 = r
        · subst hr
          rw [hown, hn.mem_erase_iff]
          exact ⟨fun h => absurd rfl h.1, fun h => by omega⟩
        · rw [hsame r hr, hn.mem_erase_iff, hm]
          exact ⟨fun h => h.2, fun h => ⟨fun e => hr e.symm, h⟩⟩
      · have := List.length_erase_of_mem hi
        have hp := List.length_pos_of_mem hi
        simp only [List.length_append, List.length_cons, List.length_nil, dropsN, othersN, List.filter_append] at hl ⊢
        simp [h1]
        omega
    · refine ⟨os, hn, fun r => ?_, ?_⟩
      · by_cases hr : s.1 = r
        · subst hr
          rw [hown, hm]
          omega
        · rw [hsame r hr, hm]
      · simp only [List.length_append, List.length_cons, List.length_nil, dropsN, othersN, List.filter_append] at hl ⊢
        simp [h0, h1]
        omega
theorem steps_nonneg {q : List (Int × Int)} (h : Steps q) : ∀ s ∈ q, 0 ≤ s.1 := by
 induction h with
 | nil => intro s hs; cases hs
 | @snoc q s _ hs ih =>
  intro x hx
  rcases List.mem_append.1 hx with hx | hx
  · exact ih x hx
  · rw [List.mem_singleton.1 hx]
    simp only [okS, Bool.and_eq_true, decide_eq_true_eq] at hs
    exact hs.1
theorem scan_isR (l : List (Int × Int)) : (dropsN (scan [] l) * 2 = l.length ↔ isR l = true) ∧ (isR l = true → scan [] l = l) := by
 have key : isR l = true → scan [] l = l ∧ dropsN l * 2 = l.length := by
  intro h
  rw [isR_iff] at h
  have e : scan [] l = l := by
   have := scan_all (rest := l) (pre := []) (fun p s q e => by
    have hs : s ∈ l := by rw [e]; simp
    obtain ⟨h1, h2⟩ := h s hs
    simp only [okS, Bool.and_eq_true, decide_eq_true_eq, List.nil_append]
    refine ⟨h1, ?_⟩
    rcases split3 e rfl h2 with ⟨h3, h4, _⟩ | ⟨h3, h4, _⟩
    · rw [h4, h3]; rfl
    · rw [h4, h3]; rfl)
   simpa using this
  refine ⟨e, ?_⟩
  have hst := (scan_steps (rest := l) Steps.nil).1
  rw [e] at hst
  obtain ⟨os, hn, hm, hl⟩ := steps_count hst
  have hos : os = [] := by
   match os, hm with
   | [], _ => rfl
   | r :: os, hm =>
    have h1 := (hm r).1 (List.mem_cons_self ..)
    obtain ⟨s, hs⟩ := List.exists_mem_of_length_pos (show 0 < (ofR r l).length by omega)
    rw [mem_ofR] at hs
    have h2 := (h s hs.1).2
    rw [hs.2] at h2
    rw [h2] at h1
    simp at h1
  have hoth : othersN l = 0 := by
   unfold othersN
   rw [List.length_eq_zero_iff, List.filter_eq_nil_iff]
   intro s hs
   have h2 := (h s hs).2
   have h3 : s ∈ ofR s.1 l := mem_ofR.2 ⟨hs, rfl⟩
   rw [h2] at h3
   simp only [List.mem_cons, List.not_mem_nil, or_false] at h3
   rcases h3 with h3 | h3 <;> rw [h3] <;> simp
  rw [hos, hoth] at hl
  simp at hl
  omega
 refine ⟨⟨fun hd => ?_, fun h => ?_⟩, fun h => (key h).1⟩
 · obtain ⟨hst, t, ht⟩ := scan_steps (rest := l) Steps.nil
   rw [List.nil_append] at ht
   obtain ⟨os, hn, hm, hl⟩ := steps_count hst
   have hlen := congrArg List.length ht
   rw [List.length_append] at hlen
   have hos : os.length = 0 := by omega
   have hoth : othersN (scan [] l) = 0 := by omega
   have ht0 : t = [] := List.eq_nil_of_length_eq_zero (by omega)
   have e : l = scan [] l := by rw [ht0, List.append_nil] at ht; exact ht
   rw [← e] at hst hm hoth
   obtain rfl : os = [] := List.eq_nil_of_length_eq_zero hos
   rw [isR_iff]
   intro s hs
   refine ⟨steps_nonneg hst s hs, ?_⟩
   have h1 := steps_of hst s.1
   have h2 : s ∈ ofR s.1 l := mem_ofR.2 ⟨hs, rfl⟩
   have h3 := List.length_pos_of_mem h2
   have h4 : (ofR s.1 l).length ≠ 1 := fun h => by have := (hm s.1).2 h; cases this
   have h5 : ¬ 3 ≤ (ofR s.1 l).length := by
    intro h
    have h6 : ((s.1, 2) : Int × Int) ∈ ofR s.1 l := by
     rw [h1, rangeL, List.mem_map]
     exact ⟨2, by rw [List.mem_range]; omega, rfl⟩
    unfold othersN at hoth
    rw [List.length_eq_zero_iff, List.filter_eq_nil_iff] at hoth
    exact hoth _ (mem_ofR.1 h6).1 (by simp)
   have h7 : (ofR s.1 l).length = 2 := by omega
   exact h1.trans (by rw [h7]; rfl)
 · rw [(key h).1]; exact (key h).2
def putL (l : List (Int × Int)) (k : Nat) (s : Int × Int) : List (Int × Int) := l.take k ++ s :: l.drop k
def withL (l : List (Int × Int)) (r : Int) (i j : Nat) : List (Int × Int) := l.take i ++ (r, 0) :: ((l.take j).drop i ++ (r, 1) :: l.drop j)
def noR (r : Int) (l : List (Int × Int)) : Bool := l.all fun s => decide (s.1 ≠ r)
def mayW (l : List (Int × Int)) (r i j : Int) : Bool := decide (0 ≤ i) && decide (i ≤ j) && decide (j ≤ l.length) && decide (0 ≤ r) && decide (l.length + 2 ≤ 16) && noR r l
def withV (l : List (Int × Int)) (r i j : Int) : List (Int × Int) := if mayW l r i j then withL l r i.toNat j.toNat else []
theorem noR_iff {r : Int} {l : List (Int × Int)} : noR r l = true ↔ ∀ s ∈ l, s.1 ≠ r := by simp [noR]
theorem noR_ofR {r : Int} {l : List (Int × Int)} : noR r l = true ↔ ofR r l = [] := by
 rw [noR_iff]
 unfold ofR
 rw [List.filter_eq_nil_iff]
 simp
theorem mayW_iff {l : List (Int × Int)} {r i j : Int} : mayW l r i j = true ↔ 0 ≤ i ∧ i ≤ j ∧ j ≤ l.length ∧ 0 ≤ r ∧ l.length + 2 ≤ 16 ∧ noR r l = true := by
 unfold mayW
 simp only [Bool.and_eq_true, decide_eq_true_eq]
 constructor
 · rintro ⟨⟨⟨⟨⟨a, b⟩, c⟩, d⟩, e⟩, f⟩; exact ⟨a, b, c, d, e, f⟩
 · rintro ⟨a, b, c, d, e, f⟩; exact ⟨⟨⟨⟨⟨a, b⟩, c⟩, d⟩, e⟩, f⟩
theorem putL_length (l : List (Int × Int)) (k : Nat) (s : Int × Int) : (putL l k s).length = l.length + 1 := by
 have := congrArg List.length (List.take_append_drop k l)
 simp only [List.length_append] at this
 simp only [putL, List.length_append, List.length_cons]
 omega
theorem put_put {l : List (Int × Int)} {i j : Nat} (hij : i ≤ j) (hj : j ≤ l.length) (r : Int) : putL (putL l j (r, 1)) i (r, 0) = withL l r i j := by
 have h1 : (l.take j).length = j := by simp; omega
 unfold putL withL
 rw [List.take_append_of_le_length (by omega), List.drop_append_of_le_length (by omega), List.take_take, Nat.min_eq_left hij]
theorem withL_length {l : List (Int × Int)} {i j : Nat} (hij : i ≤ j) (hj : j ≤ l.length) (r : Int) : (withL l r i j).length = l.length + 2 := by
 rw [← put_put hij hj, putL_length, putL_length]
theorem withL_parts (a b c : List (Int × Int)) (r : Int) : withL (a ++ b ++ c) r a.length (a.length + b.length) = a ++ (r, 0) :: (b ++ (r, 1) :: c) := by
 unfold withL
 have h1 : (a ++ b ++ c).take a.length = a := by rw [List.append_assoc]; simp
 have h2 : (a ++ b ++ c).take (a.length + b.length) = a ++ b := by rw [← List.length_append]; exact List.take_left
 have h3 : (a ++ b ++ c).drop (a.length + b.length) = c := by rw [← List.length_append]; exact List.drop_left
 rw [h1, h2, h3]
 simp
theorem parts {l : List (Int × Int)} {i j : Nat} (hij : i ≤ j) (hj : j ≤ l.length) : ∃ a b c, l = a ++ b ++ c ∧ a.length = i ∧ a.length + b.length = j := by
 refine ⟨l.take i, (l.take j).drop i, l.drop j, ?_, by simp; omega, by simp; omega⟩
 have : (l.take j).take i ++ (l.take j).drop i = l.take j := List.take_append_drop i (l.take j)
 rw [List.take_take, Nat.min_eq_left hij] at this
 rw [this, List.take_append_drop]
def partL (l : List (Int × Int)) (r : Int) (i j k : Nat) : List (Int × Int) :=
 if k ≤ i then l.take k else if k ≤ j then l.take i ++ (r, 0) :: (l.take k).drop i else l.take i ++ (r, 0) :: ((l.take j).drop i ++ (r, 1) :: (l.take k).drop j)
def oneIf (b : Bool) (s : Int × Int) : List (Int × Int) := if b then [s] else []
theorem dropTake {l : List (Int × Int)} {i k : Nat} (hik : i ≤ k) (hi : i ≤ l.length) (x : List (Int × Int)) : (l.take k ++ x).drop i = (l.take k).drop i ++ x := by
 rw [List.drop_append_of_le_length (by simp; omega)]
theorem partL_zero (l : List (Int × Int)) (r : Int) (i j : Nat) : partL l r i j 0 = [] := by simp [partL]
theorem partL_last {l : List (Int × Int)} {i j : Nat} (hij : i ≤ j) (hj : j ≤ l.length) (r : Int) : partL l r i j (l.length + 1) = withL l r i j := by
 unfold partL withL
 rw [if_neg (by omega), if_neg (by omega), List.take_of_length_le (Nat.le_succ _)]
theorem partL_a (l : List (Int × Int)) (r : Int) {i j k : Nat} (h : k ≤ i) : partL l r i j k = l.take k := by unfold partL; rw [if_pos h]
theorem partL_b (l : List (Int × Int)) (r : Int) {i j k : Nat} (h : i < k) (h2 : k ≤ j) : partL l r i j k = l.take i ++ (r, 0) :: (l.take k).drop i := by unfold partL; rw [if_neg (by omega), if_pos h2]
theorem partL_c (l : List (Int × Int)) (r : Int) {i j k : Nat} (h : i < k) (h2 : j < k) : partL l r i j k = l.take i ++ (r, 0) :: ((l.take j).drop i ++ (r, 1) :: (l.take k).drop j) := by unfold partL; rw [if_neg (by omega), if_neg (by omega)]
theorem oneIf_no {b : Bool} (h : b = false) (s : Int × Int) : oneIf b s = [] := by rw [h]; rfl
theorem oneIf_yes {b : Bool} (h : b = true) (s : Int × Int) : oneIf b s = [s] := by rw [h]; rfl
theorem drop_take_self (l : List (Int × Int)) (k : Nat) : (l.take k).drop k = [] := List.drop_eq_nil_of_le (by simp; omega)
theorem partL_succ {l : List (Int × Int)} {i j : Nat} (hij : i ≤ j) (hj : j ≤ l.length) (r : Int) (k : Nat) :
 partL l r i j (k + 1) = partL l r i j k ++ oneIf (decide (k = i)) (r, 0) ++ oneIf (decide (k = j)) (r, 1) ++ l[k]?.toList := by
 rcases Nat.lt_trichotomy k i with h | h | h
 · rw [partL_a l r (show k + 1 ≤ i by omega), partL_a l r (show k ≤ i by omega), oneIf_no (by simp; omega), oneIf_no (by simp; omega), List.take_add_one]
   simp
 · subst h
   rw [partL_a l r (Nat.le_refl k), oneIf_yes (by simp)]
   rcases Nat.lt_or_ge k j with h2 | h2
   · rw [partL_b l r (show k < k + 1 by omega) (show k + 1 ≤ j by omega), oneIf_no (by simp; omega), List.take_add_one, dropTake (Nat.le_refl _) (by omega), drop_take_self]
     simp
   · obtain rfl : j = k := by omega
     rw [partL_c l r (show j < j + 1 by omega) (show j < j + 1 by omega), oneIf_yes (by simp), List.take_add_one, dropTake (Nat.le_refl _) (by omega), drop_take_self]
     simp
 · rw [oneIf_no (show decide (k = i) = false by simp; omega)]
   rcases Nat.lt_trichotomy k j with h2 | h2 | h2
   · rw [partL_b l r (show i < k + 1 by omega) (show k + 1 ≤ j by omega), partL_b l r h (show k ≤ j by omega), oneIf_no (by simp; omega), List.take_add_one, dropTake (by omega) (by omega)]
     simp
   · subst h2
     rw [partL_c l r (show i < k + 1 by omega) (show k < k + 1 by omega), partL_b l r h (Nat.le_refl _), oneIf_yes (by simp), List.take_add_one, dropTake (Nat.le_refl _) (by omega), drop_take_self]
     simp
   · rw [partL_c l r (show i < k + 1 by omega) (show j < k + 1 by omega), partL_c l r h h2, oneIf_no (by simp; omega), List.take_add_one, dropTake (by omega) (by omega)]
     simp
theorem partL_length {l : List (Int × Int)} {i j : Nat} (hij : i ≤ j) (hj : j ≤ l.length) (r : Int) : ∀ k, (partL l r i j k).length ≤ k + 2
 | k => by
  unfold partL
  split
  · simp; omega
  · split
    · simp; omega
    · simp; omega
def ixF (s : Int × Int) : Nat → List (Int × Int) → Int
 | _, [] => -1
 | k, x :: xs => if x = s then (k : Int) else ixF s (k + 1) xs
def ixV (s : Int × Int) (l : List (Int × Int)) : Int := ixF s 0 l
theorem ixF_yes {s x : Int × Int} (h : x = s) (k : Nat) (xs : List (Int × Int)) : ixF s k (x :: xs) = k := by rw [ixF, if_pos h]
theorem ixF_no {s x : Int × Int} (h : x ≠ s) (k : Nat) (xs : List (Int × Int)) : ixF s k (x :: xs) = ixF s (k + 1) xs := by rw [ixF, if_neg h]
theorem ixF_at {s : Int × Int} : ∀ {p : List (Int × Int)} {q : List (Int × Int)} {k : Nat}, (∀ x ∈ p, x ≠ s) → ixF s k (p ++ s :: q) = k + p.length
 | [], q, k, _ => by rw [List.nil_append, ixF_yes rfl]; simp
 | x :: p, q, k, h => by
  rw [List.cons_append, ixF_no (h x (List.mem_cons_self ..)), ixF_at (fun y hy => h y (List.mem_cons_of_mem _ hy))]
  simp only [List.length_cons]
  omega
theorem wo_append (r : Int) (a b : List (Int × Int)) : woL r (a ++ b) = woL r a ++ woL r b := List.filter_append ..
theorem wo_self {r : Int} {l : List (Int × Int)} (h : noR r l = true) : woL r l = l := by
 rw [noR_iff] at h
 exact List.filter_eq_self.2 fun s hs => by simpa using h s hs
theorem wo_own (r k : Int) (a : List (Int × Int)) : woL r ((r, k) :: a) = woL r a := by simp [woL]
theorem wo_length (r : Int) (l : List (Int × Int)) : (woL r l).length ≤ l.length := List.length_filter_le ..
theorem wo_less {r : Int} {l : List (Int × Int)} : (woL r l).length < l.length ↔ noR r l = false := by
 have h1 := wo_length r l
 constructor
 · intro h
   cases hn : noR r l
   · rfl
   · rw [wo_self hn] at h; omega
 · intro h
   have h2 : ¬ (woL r l).length = l.length := by
    intro e
    unfold woL at e
    have h3 := List.filter_eq_self.1 (List.Sublist.eq_of_length List.filter_sublist e)
    have : noR r l = true := by rw [noR_iff]; intro s hs; simpa using h3 s hs
    rw [h] at this; cases this
   omega
theorem noR_append {r : Int} {a b : List (Int × Int)} : noR r (a ++ b) = true ↔ noR r a = true ∧ noR r b = true := by simp [noR]
theorem ofR_wo {r q : Int} (h : q ≠ r) (l : List (Int × Int)) : ofR q (woL r l) = ofR q l := by
 unfold ofR woL
 rw [List.filter_filter]
 apply List.filter_congr
 intro x _
 by_cases hx : x.1 = q
 · simp [hx, h]
 · simp [hx]
theorem of_wo_length (r : Int) (l : List (Int × Int)) : (ofR r l).length + (woL r l).length = l.length := by
 induction l with
 | nil => rfl
 | cons s l ih =>
  by_cases h : s.1 = r
  · simp only [ofR, woL] at ih ⊢
    simp [h]
    simp at ih
    omega
  · simp only [ofR, woL] at ih ⊢
    simp [h]
    simp at ih
    omega
theorem route_parts {l : List (Int × Int)} (h : isR l = true) {s : Int × Int} (hs : s ∈ l) : 0 ≤ s.1 ∧ ∃ a b c, l = a ++ (s.1, 0) :: (b ++ (s.1, 1) :: c) ∧ noR s.1 (a ++ b ++ c) = true := by
 obtain ⟨h0, h1⟩ := isR_iff.1 h s hs
 refine ⟨h0, ?_⟩
 have h2 : l.filter (fun x => decide (x.1 = s.1)) = (s.1, 0) :: [(s.1, 1)] := h1
 rw [List.filter_eq_cons_iff] at h2
 obtain ⟨a, l2, rfl, ha, _, h3⟩ := h2
 rw [List.filter_eq_cons_iff] at h3
 obtain ⟨b, c, rfl, hb, _, hc⟩ := h3
 rw [List.filter_eq_nil_iff] at hc
 refine ⟨a, b, c, rfl, ?_⟩
 rw [noR_append, noR_append]
 refine ⟨⟨noR_iff.2 fun x hx => by simpa using ha x hx, noR_iff.2 fun x hx => by simpa using hb x hx⟩, noR_iff.2 fun x hx => by simpa using hc x hx⟩
theorem with_ofR_own {r : Int} (a b c : List (Int × Int)) (h : noR r (a ++ b ++ c) = true) : ofR r (a ++ (r, 0) :: (b ++ (r, 1) :: c)) = [(r, 0), (r, 1)] := by
 rw [noR_append, noR_append] at h
 rw [ofR_append, ofR_cons_same (s := (r, 0)) rfl, ofR_append, ofR_cons_same (s := (r, 1)) rfl, noR_ofR.1 h.1.1, noR_ofR.1 h.1.2, noR_ofR.1 h.2]
 rfl
theorem with_ofR_other {r q : Int} (hq : r ≠ q) (a b c : List (Int × Int)) : ofR q (a ++ (r, 0) :: (b ++ (r, 1) :: c)) = ofR q (a ++ b ++ c) := by
 rw [ofR_append, ofR_cons_other hq, ofR_append, ofR_cons_other hq, ofR_append, ofR_append, List.append_assoc]
theorem isR_with {l : List (Int × Int)} {r i j : Int} (hm : mayW l r i j = true) (h : isR l = true) : isR (withL l r i.toNat j.toNat) = true := by
 obtain ⟨h1, h2, h3, h4, h5, h6⟩ := mayW_iff.1 hm
 obtain ⟨a, b, c, rfl, ha, hb⟩ := parts (l := l) (i := i.toNat) (j := j.toNat) (by omega) (by omega)
 rw [← ha, ← hb, withL_parts, isR_iff]
 intro s hs
 by_cases hr : r = s.1
 · rw [← hr]
   exact ⟨h4, with_ofR_own a b c h6⟩
 · rw [with_ofR_other hr]
   have hs' : s ∈ a ++ b ++ c := by
    simp only [List.mem_append, List.mem_cons] at hs ⊢
    rcases hs with hs | rfl | hs | rfl | hs
    · exact .inl (.inl hs)
    · exact absurd rfl hr
    · exact .inl (.inr hs)
    · exact absurd rfl hr
    · exact .inr hs
   exact isR_iff.1 h s hs'
theorem wo_with {l : List (Int × Int)} {r i j : Int} (hm : mayW l r i j = true) : woL r (withL l r i.toNat j.toNat) = l := by
 obtain ⟨h1, h2, h3, h4, h5, h6⟩ := mayW_iff.1 hm
 obtain ⟨a, b, c, rfl, ha, hb⟩ := parts (l := l) (i := i.toNat) (j := j.toNat) (by omega) (by omega)
 rw [← ha, ← hb, withL_parts, wo_append, wo_own, wo_append, wo_own]
 rw [noR_append, noR_append] at h6
 rw [wo_self h6.1.1, wo_self h6.1.2, wo_self h6.2, List.append_assoc]
theorem ix_parts (a b c : List (Int × Int)) {r : Int} (h : noR r (a ++ b ++ c) = true) : ixV (r, 0) (a ++ (r, 0) :: (b ++ (r, 1) :: c)) = a.length ∧ ixV (r, 1) (a ++ (r, 0) :: (b ++ (r, 1) :: c)) = (a.length + b.length + 1 : Nat) := by
 rw [noR_append, noR_append, noR_iff, noR_iff] at h
 refine ⟨?_, ?_⟩
 · unfold ixV
   rw [ixF_at (fun x hx e => h.1.1 x hx (by rw [e]))]
   simp
 · have e : a ++ (r, 0) :: (b ++ (r, 1) :: c) = (a ++ (r, 0) :: b) ++ (r, 1) :: c := by simp
   unfold ixV
   rw [e, ixF_at]
   · simp; omega
   · intro x hx
     simp only [List.mem_append, List.mem_cons] at hx
     rcases hx with hx | rfl | hx
     · exact fun e => h.1.1 x hx (by rw [e])
     · simp
     · exact fun e => h.1.2 x hx (by rw [e])
theorem back {l : List (Int × Int)} (h : isR l = true) {s : Int × Int} (hs : s ∈ l) (hl : l.length ≤ 16) :
 isR (woL s.1 l) = true ∧ (woL s.1 l).length + 2 = l.length ∧ mayW (woL s.1 l) s.1 (ixV (s.1, 0) l) (ixV (s.1, 1) l - 1) = true ∧ withV (woL s.1 l) s.1 (ixV (s.1, 0) l) (ixV (s.1, 1) l - 1) = l := by
 have hr := isR_iff.1 h
 have hlen := of_wo_length s.1 l
 rw [(hr s hs).2] at hlen
 have h1 : isR (woL s.1 l) = true := by
  rw [isR_iff]
  intro x hx
  have hx' : x ∈ l ∧ x.1 ≠ s.1 := by simpa [woL] using hx
  rw [ofR_wo hx'.2]
  exact hr x hx'.1
 obtain ⟨h0, a, b, c, e, hn⟩ := route_parts h hs
 have hw : woL s.1 l = a ++ b ++ c := by
  have hn' := hn
  rw [noR_append, noR_append] at hn'
  rw [e, wo_append, wo_own, wo_append, wo_own, wo_self hn'.1.1, wo_self hn'.1.2, wo_self hn'.2, List.append_assoc]
 have hix := ix_parts a b c hn
 rw [← e] at hix
 have hm : mayW (woL s.1 l) s.1 (ixV (s.1, 0) l) (ixV (s.1, 1) l - 1) = true := by
  rw [mayW_iff, hix.1, hix.2, hw]
  simp only [List.length_append] at hlen ⊢
  rw [hw] at hlen
  simp at hlen
  refine ⟨by omega, by omega, by omega, h0, by omega, hn⟩
 refine ⟨h1, by simp at hlen; omega, hm, ?_⟩
 unfold withV
 rw [if_pos hm, hix.1, hix.2, hw]
 rw [show ((a.length : Nat) : Int).toNat = a.length by simp, show (((a.length + b.length + 1 : Nat) : Int) - 1).toNat = a.length + b.length by omega, withL_parts]
 exact e.symm
end Go.Proofs.YteclpblfleakhaaGreatDoor.Route

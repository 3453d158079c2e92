/-
  Places near one, in plain Lean: gathered within the grid alone, and out of a whole square: the same. No program is spoken of here.
-/
import Derived.Test.YtjojdfbjecbhnaaPlaceMath
namespace Go.Proofs.Ytjojdfbjecbhnaa.Place

/-- n numbers from lo on. -/
def span (lo : Int) (n : Nat) : List Int := (List.range n).map fun (i : Nat) => lo + i
theorem span_0 (lo : Int) : span lo 0 = [] := rfl
theorem span_succ (lo : Int) (n : Nat) : span lo (n + 1) = span lo n ++ [lo + n] := by simp [span, List.range_succ]
theorem span_add (lo : Int) (a b : Nat) : span lo (a + b) = span lo a ++ span (lo + a) b := by
  simp only [span, List.range_add, List.map_append, List.map_map]
  congr 1
  apply List.map_congr_left
  intro i _
  simp
  omega
theorem mem_span {lo x : Int} {n : Nat} : x ∈ span lo n ↔ lo ≤ x ∧ x < lo + n := by
  simp only [span, List.mem_map, List.mem_range]
  constructor
  · rintro ⟨i, hi, rfl⟩
    omega
  · rintro ⟨h1, h2⟩
    exact ⟨(x - lo).toNat, by omega, by omega⟩
theorem flat_nil {β : Type} (l : List Int) (f : Int → List β) (h : ∀ x ∈ l, f x = []) : l.flatMap f = [] := List.flatMap_eq_nil_iff.2 h
theorem flat_congr {β : Type} (l : List Int) (f g : Int → List β) (h : ∀ x ∈ l, f x = g x) : l.flatMap f = l.flatMap g := by
  induction l with
  | nil => rfl
  | cons x l ih => rw [List.flatMap_cons, List.flatMap_cons, h x (List.mem_cons_self ..), ih fun y hy => h y (List.mem_cons_of_mem _ hy)]

theorem flat_span {β : Type} (f : Int → List β) {lo c d : Int} {n : Nat} (h1 : lo ≤ c) (h2 : d < lo + n) (hout : ∀ x, lo ≤ x → x < lo + n → (x < c ∨ d < x) → f x = []) :
    (span lo n).flatMap f = (span c (d - c + 1).toNat).flatMap f := by
  by_cases hcd : d < c
  · rw [show (d - c + 1).toNat = 0 by omega, span_0, flat_nil]
    · rfl
    · intro x hx
      rw [mem_span] at hx
      exact hout x hx.1 hx.2 (by omega)
  · obtain ⟨a, ha⟩ : ∃ a : Nat, c = lo + a := ⟨(c - lo).toNat, by omega⟩
    obtain ⟨b, hb⟩ : ∃ b : Nat, d - c + 1 = b := ⟨(d - c + 1).toNat, by omega⟩
    obtain ⟨e, he⟩ : ∃ e : Nat, n = a + (b + e) := ⟨n - a - b, by omega⟩
    rw [hb, Int.toNat_natCast, he, span_add, span_add, List.flatMap_append, List.flatMap_append, flat_nil (span lo a), flat_nil (span (lo + a + b) e), ← ha]
    · simp
    · intro x hx
      rw [mem_span] at hx
      exact hout x (by omega) (by omega) (by omega)
    · intro x hx
      rw [mem_span] at hx
      exact hout x (by omega) (by omega) (by omega)

def x0 (p : Int × Int) (far : Int) : Int := max (p.1 - far) 0
def x1 (p : Int × Int) (far : Int) : Int := min (p.1 + far) 1023
def left (p : Int × Int) (far x : Int) : Int := far - gap x p.1
def y0 (p : Int × Int) (far x : Int) : Int := max (p.2 - left p far x) 0
def y1 (p : Int × Int) (far x : Int) : Int := min (p.2 + left p far x) 1023
def colC (p : Int × Int) (far x : Int) : Nat := (y1 p far x - y0 p far x + 1).toNat
def rowsC (p : Int × Int) (far : Int) : Nat := (x1 p far - x0 p far + 1).toNat
def colN (p : Int × Int) (far x : Int) (m : Nat) : List (Int × Int) := (span (y0 p far x) m).flatMap fun y => [(x, y)]
def nearN (p : Int × Int) (far : Int) (k : Nat) : List (Int × Int) := (span (x0 p far) k).flatMap fun x => colN p far x (colC p far x)
/-- What is near p. -/
def nearL (p : Int × Int) (far : Int) : List (Int × Int) := if mayB p && decide (0 ≤ far) && decide (far ≤ 16) then nearN p far (rowsC p far) else []

def good (p : Int × Int) (far : Int) (q : Int × Int) : Bool := mayB q && decide (distV p q ≤ far)
def refCol (p : Int × Int) (far x : Int) (m : Nat) : List (Int × Int) := (span (p.2 - far) m).flatMap fun y => if good p far (x, y) then [(x, y)] else []
def sideC (far : Int) : Nat := (2 * far + 1).toNat
def refN (p : Int × Int) (far : Int) (k : Nat) : List (Int × Int) := (span (p.1 - far) k).flatMap fun x => refCol p far x (sideC far)

theorem colN_succ (p : Int × Int) (far x : Int) (m : Nat) : colN p far x (m + 1) = colN p far x m ++ [(x, y0 p far x + m)] := by simp [colN, span_succ]
theorem nearN_succ (p : Int × Int) (far : Int) (k : Nat) : nearN p far (k + 1) = nearN p far k ++ colN p far (x0 p far + k) (colC p far (x0 p far + k)) := by simp [nearN, span_succ]
theorem refCol_yes {p : Int × Int} {far x : Int} {m : Nat} (h : good p far (x, p.2 - far + m) = true) : refCol p far x (m + 1) = refCol p far x m ++ [(x, p.2 - far + m)] := by simp [refCol, span_succ, h]
theorem refCol_no {p : Int × Int} {far x : Int} {m : Nat} (h : good p far (x, p.2 - far + m) = false) : refCol p far x (m + 1) = refCol p far x m := by simp [refCol, span_succ, h]
theorem refN_succ (p : Int × Int) (far : Int) (k : Nat) : refN p far (k + 1) = refN p far k ++ refCol p far (p.1 - far + k) (sideC far) := by simp [refN, span_succ]

theorem colN_length (p : Int × Int) (far x : Int) (m : Nat) : (colN p far x m).length = m := by
  induction m with
  | zero => rfl
  | succ m ih => rw [colN_succ, List.length_append, ih]; rfl
theorem refCol_length (p : Int × Int) (far x : Int) (m : Nat) : (refCol p far x m).length ≤ m := by
  induction m with
  | zero => exact Nat.le_refl _
  | succ m ih =>
    cases h : good p far (x, p.2 - far + m)
    · rw [refCol_no h]; omega
    · rw [refCol_yes h, List.length_append, List.length_singleton]; omega
theorem colC_le {p : Int × Int} {far x : Int} (h : far ≤ 16) : colC p far x ≤ 33 := by
  have := gap_nonneg x p.1
  unfold colC y1 y0 left
  omega
theorem nearN_length {p : Int × Int} {far : Int} (h : far ≤ 16) (k : Nat) : (nearN p far k).length ≤ 33 * k := by
  induction k with
  | zero => exact Nat.le_refl _
  | succ k ih =>
    rw [nearN_succ, List.length_append, colN_length]
    have := colC_le (p := p) (x := x0 p far + k) h
    omega
theorem refN_length {p : Int × Int} {far : Int} (h : far ≤ 16) (k : Nat) : (refN p far k).length ≤ 33 * k := by
  induction k with
  | zero => exact Nat.le_refl _
  | succ k ih =>
    rw [refN_succ, List.length_append]
    have := refCol_length p far (p.1 - far + k) (sideC far)
    have : sideC far ≤ 33 := by unfold sideC; omega
    omega

theorem good_iff {p q : Int × Int} {far : Int} (hp : mayB p = true) : good p far q = true ↔ ((0 ≤ q.1 ∧ q.1 < 1024) ∧ 0 ≤ q.2 ∧ q.2 < 1024) ∧ gap p.1 q.1 + gap p.2 q.2 ≤ far := by
  unfold good
  rw [Bool.and_eq_true, decide_eq_true_eq]
  constructor
  · rintro ⟨h1, h2⟩
    rw [distV_yes hp h1] at h2
    exact ⟨(mayB_iff q).1 h1, h2⟩
  · rintro ⟨h1, h2⟩
    have h1' := (mayB_iff q).2 h1
    exact ⟨h1', by rw [distV_yes hp h1']; exact h2⟩
theorem gap_comm (a b : Int) : gap a b = gap b a := by unfold gap; split <;> split <;> omega
theorem good_no {p q : Int × Int} {far : Int} (hp : mayB p = true) (h : ¬ (((0 ≤ q.1 ∧ q.1 < 1024) ∧ 0 ≤ q.2 ∧ q.2 < 1024) ∧ gap p.1 q.1 + gap p.2 q.2 ≤ far)) : good p far q = false := by
  rw [Bool.eq_false_iff, ne_eq, good_iff hp]
  exact h

theorem col_eq {p : Int × Int} {far x : Int} (hp : mayB p = true) (h0 : 0 ≤ far) (hx0 : x0 p far ≤ x) (hx1 : x ≤ x1 p far) : refCol p far x (sideC far) = colN p far x (colC p far x) := by
  have hp' := (mayB_iff p).1 hp
  have hg : 0 ≤ left p far x := by unfold left gap; unfold x0 at hx0; unfold x1 at hx1; split <;> omega
  have hgn := gap_nonneg x p.1
  have hl : left p far x ≤ far := by unfold left; omega
  have hxs : 0 ≤ x ∧ x < 1024 := by unfold x0 at hx0; unfold x1 at hx1; omega
  have hgx : gap p.1 x = far - left p far x := by rw [gap_comm]; unfold left; omega
  unfold refCol colN colC
  rw [flat_span (c := y0 p far x) (d := y1 p far x)]
  · apply flat_congr
    intro y hy
    rw [mem_span] at hy
    have hy1 : y0 p far x ≤ y := hy.1
    have hy2 : y ≤ y1 p far x := by omega
    rw [if_pos]
    rw [good_iff hp]
    refine ⟨⟨hxs, ?_⟩, ?_⟩
    · unfold y0 at hy1; unfold y1 at hy2; omega
    · rw [hgx]
      unfold gap
      unfold y0 at hy1; unfold y1 at hy2
      split <;> omega
  · unfold y0; omega
  · unfold y1 sideC; omega
  · intro y h1 h2 h3
    rw [if_neg]
    rw [Bool.not_eq_true]
    apply good_no hp
    rintro ⟨⟨_, h5, h6⟩, h7⟩
    rw [hgx] at h7
    simp only at h5 h6
    unfold gap at h7
    unfold y0 y1 at h3
    split at h7 <;> omega

theorem near_eq' {p : Int × Int} {far : Int} (hp : mayB p = true) (h0 : 0 ≤ far) : refN p far (sideC far) = nearN p far (rowsC p far) := by
  have hp' := (mayB_iff p).1 hp
  unfold refN nearN rowsC
  rw [flat_span (c := x0 p far) (d := x1 p far)]
  · apply flat_congr
    intro x hx
    rw [mem_span] at hx
    exact col_eq hp h0 hx.1 (by omega)
  · unfold x0; omega
  · unfold x1 sideC; omega
  · intro x h1 h2 h3
    unfold refCol
    apply flat_nil
    intro y hy
    rw [if_neg]
    rw [Bool.not_eq_true]
    apply good_no hp
    rintro ⟨⟨⟨h4, h5⟩, _⟩, h7⟩
    simp only at h4 h5 h7
    have := gap_nonneg p.2 y
    unfold x0 x1 at h3
    unfold sideC at h2
    omega

end Go.Proofs.Ytjojdfbjecbhnaa.Place

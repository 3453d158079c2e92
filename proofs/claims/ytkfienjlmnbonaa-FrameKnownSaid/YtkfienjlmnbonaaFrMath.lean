/-
  Frames in plain words: what a text begins with, what it is as a frame, of how many frames it is. No program here.
-/
import Derived.Test.YtkfienjlmnbonaaOctMath
namespace Go.Proofs.Ytkfienjlmnbonaa.Fr
open Go.Proofs.Ytkfienjlmnbonaa.Oct
set_option linter.unusedVariables false

/-- A frame, and what is behind it. -/
structure Fd where
  k : Nat
  body : Bs
  rest : Bs
/-- How many bytes two bytes say. -/
def big (b c : UInt8) : Nat := 256 * b.toNat + c.toNat
/-- The frame with which a text begins. -/
def front : Bs → Option Fd
  | a :: b :: c :: t => if big b c ≤ t.length then some ⟨a.toNat, t.take (big b c), t.drop (big b c)⟩ else none
  | _ => none
/-- A frame. -/
def frL (k : Nat) (b : Bs) : Bs := UInt8.ofNat k :: UInt8.ofNat (b.length / 256) :: UInt8.ofNat (b.length % 256) :: b

def layE (k : Int) (n : Nat) : Int := if k < 0 ∨ 255 < k then 2 else if 65535 < n then 3 else 0
def layB (k : Int) (b : Bs) : Bs := if k < 0 ∨ 255 < k then [] else if 65535 < b.length then [] else frL k.toNat b
def spK (s : Bs) : Int := match front s with | some f => (f.k : Int) | none => 0
def spB (s : Bs) : Bs := match front s with | some f => f.body | none => []
def spR (s : Bs) : Bs := match front s with | some f => f.rest | none => []
def spE (s : Bs) : Int := match front s with | some _ => 0 | none => 14
def paK (s : Bs) : Int := match front s with | some f => (if f.rest = [] then (f.k : Int) else 0) | none => 0
def paB (s : Bs) : Bs := match front s with | some f => (if f.rest = [] then f.body else []) | none => []
def paE (s : Bs) : Int := match front s with | some f => (if f.rest = [] then 0 else 15) | none => 14

/-- A text is these frames, and what is left begins with none. -/
inductive Run : Bs → List Fd → Bs → Prop
  | stop {s : Bs} (h : front s = none) : Run s [] s
  | go {s r : Bs} {f : Fd} {l : List Fd} (h : front s = some f) (h2 : Run f.rest l r) : Run s (f :: l) r

theorem big_lt (b c : UInt8) : big b c < 65536 := by
  have := b.toNat_lt
  have := c.toNat_lt
  unfold big
  omega
theorem big_of {n : Nat} (h : n < 65536) : big (UInt8.ofNat (n / 256)) (UInt8.ofNat (n % 256)) = n := by
  unfold big
  rw [UInt8.toNat_ofNat', UInt8.toNat_ofNat']
  omega
theorem front_some {s : Bs} {f : Fd} (h : front s = some f) : f.k < 256 ∧ f.body.length < 65536 ∧ s = frL f.k f.body ++ f.rest := by
  match s, h with
  | a :: b :: c :: t, h =>
    simp only [front] at h
    split at h
    case isFalse => cases h
    case isTrue hl =>
      cases h
      have ha := a.toNat_lt
      have hb := big_lt b c
      have hn : (t.take (big b c)).length = big b c := by rw [List.length_take]; omega
      refine ⟨ha, by rw [hn]; exact hb, ?_⟩
      have h1 : UInt8.ofNat (big b c / 256) = b := by
        have := b.toNat_lt
        have := c.toNat_lt
        rw [show big b c / 256 = b.toNat by unfold big; omega, UInt8.ofNat_toNat]
      have h2 : UInt8.ofNat (big b c % 256) = c := by
        have := b.toNat_lt
        have := c.toNat_lt
        rw [show big b c % 256 = c.toNat by unfold big; omega, UInt8.ofNat_toNat]
      simp only [frL, hn, h1, h2, UInt8.ofNat_toNat, List.cons_append, List.take_append_drop]
theorem front_lay {k : Nat} {b : Bs} (hk : k < 256) (hb : b.length < 65536) (t : Bs) : front (frL k b ++ t) = some ⟨k, b, t⟩ := by
  simp only [frL, List.cons_append, front, big_of hb]
  rw [if_pos (by rw [List.length_append]; omega), List.take_left' rfl, List.drop_left' rfl, UInt8.toNat_ofNat', Nat.mod_eq_of_lt (by simpa using hk)]
theorem frL_length (k : Nat) (b : Bs) : (frL k b).length = 3 + b.length := by
  simp [frL]
  omega
theorem front_cut {k : Nat} {b : Bs} (hb : b.length < 65536) {c : Nat} (hc : c < 3 + b.length) : front ((frL k b).take c) = none := by
  match c, hc with
  | 0, _ => rfl
  | 1, _ => rfl
  | 2, _ => rfl
  | c + 3, hc =>
    simp only [frL, List.take_succ_cons, front, big_of hb]
    rw [if_neg (by rw [List.length_take]; omega)]
theorem front_nil : front [] = none := rfl
theorem rest_length {s : Bs} {f : Fd} (h : front s = some f) : f.rest.length + 3 ≤ s.length := by
  obtain ⟨_, _, e⟩ := front_some h
  have := congrArg List.length e
  rw [List.length_append, frL_length] at this
  omega
theorem run_all : ∀ (n : Nat) (s : Bs), s.length ≤ n → ∃ l r, Run s l r
  | 0, s, h => by
    obtain rfl := List.eq_nil_of_length_eq_zero (Nat.le_zero.1 h)
    exact ⟨[], [], .stop rfl⟩
  | n + 1, s, h => by
    cases hf : front s with
    | none => exact ⟨[], s, .stop hf⟩
    | some f =>
      have := rest_length hf
      obtain ⟨l, r, hr⟩ := run_all n f.rest (by omega)
      exact ⟨f :: l, r, .go hf hr⟩
theorem Run.some (s : Bs) : ∃ l r, Run s l r := run_all s.length s (Nat.le_refl _)
theorem Run.length {s r : Bs} {l : List Fd} (h : Run s l r) : l.length ≤ s.length := by
  induction h with
  | stop _ => simp
  | go h _ ih =>
    have := rest_length h
    simp
    omega
theorem Run.left {s r : Bs} {l : List Fd} (h : Run s l r) : front r = none := by
  induction h with
  | stop h => exact h
  | go _ _ ih => exact ih
theorem Run.same {s r r' : Bs} {l l' : List Fd} (h : Run s l r) (h' : Run s l' r') : l = l' ∧ r = r' := by
  induction h generalizing l' r' with
  | stop h =>
    cases h' with
    | stop _ => exact ⟨rfl, rfl⟩
    | go h2 _ => rw [h] at h2; cases h2
  | go h _ ih =>
    cases h' with
    | stop h2 => rw [h] at h2; cases h2
    | go h2 h3 =>
      rw [h] at h2
      cases h2
      obtain ⟨rfl, rfl⟩ := ih h3
      exact ⟨rfl, rfl⟩
/-- What Count tells. -/
def cnN (l : List Fd) (r : Bs) : Int := if r = [] then (l.length : Int) else 0
def cnE (r : Bs) : Int := if r = [] then 0 else 14

end Go.Proofs.Ytkfienjlmnbonaa.Fr

/-
  Numbers and texts as bytes, in plain words: a number's bytes, the number of bytes, a reader's states, the rows of parts. No program here.
-/
import Derived.Laws.Concat
import Derived.Laws.Strings2
import Derived.Lib.Strings
namespace Go.Proofs.Ytkfienjlmnbonaa.Oct
set_option linter.unusedVariables false

abbrev Bs := List UInt8
/-- The text of these bytes. -/
abbrev str (l : Bs) : ByteArray := ⟨l.toArray⟩
theorem str_self (s : ByteArray) : str s.data.toList = s := by simp [str]
theorem str_inj {a b : Bs} (h : str a = str b) : a = b := by
  have := congrArg (fun s : ByteArray => s.data.toList) h
  simpa [str] using this
theorem str_size (l : Bs) : (str l).size = l.length := rfl
theorem str_append (a b : Bs) : str a ++ str b = str (a ++ b) := ByteArray.mk_append_mk a b
theorem str_cut (l : Bs) (a b : Nat) : (str l).extract a b = str ((l.drop a).take (b - a)) := ByteArray.extract_mk l a b
theorem str_from (l : Bs) (a : Nat) : (str l).extract a l.length = str (l.drop a) := by
  rw [str_cut, List.take_of_length_le (by simp)]
theorem str_to (l : Bs) (b : Nat) : (str l).extract 0 b = str (l.take b) := by
  rw [str_cut]
  rfl

/-- A number's bytes, the highest one first. -/
def laidL (n : Nat) : Nat → Bs
  | 0 => []
  | k + 1 => UInt8.ofNat (n / 2 ^ (8 * k) % 256) :: laidL n k
/-- The number that these bytes are. -/
def numL (l : Bs) : Nat := l.foldl (fun a b => a * 256 + b.toNat) 0

theorem laidL_length (n : Nat) : ∀ k, (laidL n k).length = k
  | 0 => rfl
  | k + 1 => by
    unfold laidL
    rw [List.length_cons, laidL_length n k]
theorem laidL_get (n : Nat) : ∀ (k i : Nat), i < k → (laidL n k)[i]? = some (UInt8.ofNat (n / 2 ^ (8 * (k - 1 - i)) % 256))
  | 0, i, h => by omega
  | k + 1, 0, _ => by simp [laidL]
  | k + 1, i + 1, h => by
    unfold laidL
    rw [List.getElem?_cons_succ, laidL_get n k i (by omega), show k + 1 - 1 - (i + 1) = k - 1 - i by omega]
theorem byte_of (n : Nat) : (UInt8.ofNat (n % 256)).toNat = n % 256 := by
  rw [UInt8.toNat_ofNat']
  omega
theorem num_fold (l : Bs) : ∀ a, l.foldl (fun a b => a * 256 + b.toNat) a = a * 2 ^ (8 * l.length) + numL l := by
  induction l with
  | nil => intro a; simp [numL]
  | cons b l ih =>
    intro a
    have h0 : numL (b :: l) = (0 * 256 + b.toNat) * 2 ^ (8 * l.length) + numL l := by
      unfold numL
      rw [List.foldl_cons, ih]
      rfl
    rw [List.foldl_cons, ih, h0, List.length_cons, Nat.mul_add, Nat.pow_add]
    simp only [Nat.zero_mul, Nat.zero_add, Nat.mul_one]
    rw [show (2 : Nat) ^ 8 = 256 from rfl, Nat.add_mul, Nat.mul_assoc, Nat.mul_comm 256, Nat.add_assoc]
theorem num_cons (b : UInt8) (l : Bs) : numL (b :: l) = b.toNat * 2 ^ (8 * l.length) + numL l := by
  unfold numL
  rw [List.foldl_cons, num_fold]
  simp [numL]
theorem num_snoc (l : Bs) (b : UInt8) : numL (l ++ [b]) = numL l * 256 + b.toNat := by
  unfold numL
  rw [List.foldl_append]
  rfl
theorem num_lt : ∀ l : Bs, numL l < 2 ^ (8 * l.length)
  | [] => by decide
  | b :: l => by
    have h := num_lt l
    have hb := b.toNat_lt
    rw [num_cons, List.length_cons, Nat.mul_add, Nat.pow_add]
    have : b.toNat * 2 ^ (8 * l.length) + 2 ^ (8 * l.length) ≤ 2 ^ (8 * l.length) * 2 ^ (8 * 1) := by
      rw [← Nat.succ_mul, Nat.mul_comm]
      exact Nat.mul_le_mul_left _ (by omega)
    omega
theorem num_laid (n : Nat) : ∀ k, numL (laidL n k) = n % 2 ^ (8 * k)
  | 0 => by simp [laidL, numL, Nat.mod_one]
  | k + 1 => by
    unfold laidL
    rw [num_cons, laidL_length, num_laid n k, byte_of, Nat.mul_add, Nat.pow_add, Nat.mod_mul]
    rw [show (2 : Nat) ^ (8 * 1) = 256 from rfl, Nat.mul_comm, Nat.add_comm]
theorem num_back {n k : Nat} (h : n < 2 ^ (8 * k)) : numL (laidL n k) = n := by rw [num_laid, Nat.mod_eq_of_lt h]
theorem laid_inj {x y k : Nat} (hx : x < 2 ^ (8 * k)) (hy : y < 2 ^ (8 * k)) (h : laidL x k = laidL y k) : x = y := by
  rw [← num_back hx, ← num_back hy, h]
/-- Numbers in as many bytes are ordered as their bytes are. -/
theorem less_app : ∀ (s a b : Bs), Op.bytesLess (s ++ a) (s ++ b) = Op.bytesLess a b
  | [], a, b => rfl
  | c :: s, a, b => by
    rw [List.cons_append, List.cons_append, Op.bytesLess, less_app s a b]
    simp
theorem less_num : ∀ (a b : Bs), a.length = b.length → Op.bytesLess a b = decide (numL a < numL b)
  | [], [], _ => by simp [Op.bytesLess, numL]
  | [], _ :: _, h => by simp at h
  | _ :: _, [], h => by simp at h
  | x :: a, y :: b, h => by
    have hl : a.length = b.length := by simpa using h
    have ha := num_lt a
    have hb := num_lt b
    rw [← hl] at hb
    rw [Op.bytesLess, less_num a b hl, num_cons, num_cons, ← hl]
    obtain ⟨P, hP⟩ : ∃ P, 2 ^ (8 * a.length) = P := ⟨_, rfl⟩
    rw [hP] at ha hb ⊢
    rcases Nat.lt_trichotomy x.toNat y.toNat with h1 | h1 | h1
    · have hd : x < y := UInt8.lt_iff_toNat_lt.2 h1
      have h2 : x.toNat * P + P ≤ y.toNat * P := by rw [← Nat.succ_mul]; exact Nat.mul_le_mul_right P h1
      rw [decide_eq_true hd, Bool.true_or, eq_comm, decide_eq_true_eq]
      omega
    · have hd : x = y := UInt8.toNat_inj.1 h1
      subst hd
      simp [UInt8.lt_irrefl]
    · have hd : ¬ x < y := fun h2 => by have := UInt8.lt_iff_toNat_lt.1 h2; omega
      have hn : (x == y) = false := by
        rw [beq_eq_false_iff_ne]
        intro h2
        subst h2
        omega
      have h2 : y.toNat * P + P ≤ x.toNat * P := by rw [← Nat.succ_mul]; exact Nat.mul_le_mul_right P h1
      rw [decide_eq_false hd, hn, Bool.false_and, Bool.or_false, eq_comm, decide_eq_false_iff_not]
      omega
theorem less_laid {x y k : Nat} (s : Bs) (hx : x < 2 ^ (8 * k)) (hy : y < 2 ^ (8 * k)) : Op.bytesLess (s ++ laidL x k) (s ++ laidL y k) = decide (x < y) := by
  rw [less_app, less_num _ _ (by rw [laidL_length, laidL_length]), num_back hx, num_back hy]

/-- What Put tells. -/
def isW (k : Int) : Bool := decide (1 ≤ k ∧ k ≤ 8)
def putE (n : Nat) (k : Int) : Int := if isW k then (if n < 2 ^ (8 * k.toNat) then 0 else 3) else 2
def putB (s : Bs) (n : Nat) (k : Int) : Bs := if isW k then (if n < 2 ^ (8 * k.toNat) then s ++ laidL n k.toNat else []) else []
/-- What Get tells. -/
def getOk (l : Bs) (at_ k : Int) : Bool := decide (1 ≤ k ∧ k ≤ 8 ∧ 0 ≤ at_ ∧ at_ ≤ (l.length : Int) - k)
def getN (l : Bs) (at_ k : Int) : Nat := if getOk l at_ k then numL ((l.drop at_.toNat).take k.toNat) else 0
/-- What PutText tells. -/
def ptE (t : Bs) : Int := if t.length < 65536 then 0 else 3
def ptB (s t : Bs) : Bs := if t.length < 65536 then s ++ (laidL t.length 2 ++ t) else []

/-- A reader's state: what is there still; none, if it is broken. -/
abbrev St := Option Bs
def leftS : St → Nat
  | some l => l.length
  | none => 0
def endS : St → Int
  | none => 14
  | some [] => 0
  | some (_ :: _) => 15
/-- What is told of the front, and how much of it is taken. -/
def numT (k : Int) (l : Bs) : Nat × Option Int := if getOk l 0 k then (numL (l.take k.toNat), some k) else (0, none)
def numS (st : St) (k : Int) : Nat × St :=
  match st with
  | some l => if getOk l 0 k then (numL (l.take k.toNat), some (l.drop k.toNat)) else (0, none)
  | none => (0, none)
def textOk (l : Bs) : Bool := decide (2 ≤ l.length ∧ 2 + numL (l.take 2) ≤ l.length)
def textS (st : St) : Bs × St :=
  match st with
  | some l => if textOk l then ((l.drop 2).take (numL (l.take 2)), some (l.drop (2 + numL (l.take 2)))) else ([], none)
  | none => ([], none)

/-- A number in so many bytes, or a text. -/
structure Part where
  n : Nat
  w : Nat
  text : Bs
  is : Bool
def Part.width (p : Part) : Nat := 1 + p.w % 8
def Part.num (p : Part) : Nat := p.n / 2 ^ (8 * (8 - p.width))
def Part.ok (p : Part) : Prop := p.n < 18446744073709551616 ∧ p.w < 256
def Part.cut (p : Part) : Part := { p with text := p.text.take 300 }
def Part.bytes (p : Part) : Bs := if p.is then laidL p.text.length 2 ++ p.text else laidL p.num p.width
def rowL (l : List Part) : Bs := (l.map Part.bytes).flatten
def stepS (st : St) (p : Part) : St := if p.is then (textS st).2 else (numS st p.width).2
theorem Part.width_le (p : Part) : 1 ≤ p.width ∧ p.width ≤ 8 := by unfold Part.width; omega
theorem Part.num_lt {p : Part} (h : p.ok) : p.num < 2 ^ (8 * p.width) := by
  have hw := p.width_le
  have h1 := h.1
  unfold Part.num
  rw [Nat.div_lt_iff_lt_mul (Nat.pow_pos (by decide)), ← Nat.pow_add, show 8 * p.width + 8 * (8 - p.width) = 64 by omega]
  exact h1
theorem Part.num_lt64 {p : Part} (h : p.ok) : p.num < 18446744073709551616 := Nat.lt_of_le_of_lt (Nat.div_le_self _ _) h.1
theorem isW_of {p : Part} : isW (p.width : Int) = true := by
  have := p.width_le
  simp [isW]
  omega

theorem numS_front {n k : Nat} (h1 : 1 ≤ k) (h8 : k ≤ 8) (hn : n < 2 ^ (8 * k)) (tl : Bs) : numS (some (laidL n k ++ tl)) k = (n, some tl) := by
  have hl := laidL_length n k
  have hok : getOk (laidL n k ++ tl) 0 k = true := by
    simp [getOk, hl]
    omega
  simp only [numS, hok, if_true, Int.toNat_natCast]
  rw [List.take_left' hl, List.drop_left' hl, num_back hn]
theorem textS_front {t : Bs} (ht : t.length < 65536) (tl : Bs) : textS (some (laidL t.length 2 ++ t ++ tl)) = (t, some tl) := by
  have hl := laidL_length t.length 2
  have h1 : (laidL t.length 2 ++ t ++ tl).take 2 = laidL t.length 2 := by rw [List.append_assoc, List.take_left' hl]
  have h2 : numL (laidL t.length 2) = t.length := num_back (by simpa using ht)
  have hok : textOk (laidL t.length 2 ++ t ++ tl) = true := by
    simp only [textOk, h1, h2]
    simp [hl]
  simp only [textS, hok, if_true, h1, h2]
  rw [List.append_assoc, List.drop_left' hl, List.take_left' rfl, ← List.drop_drop, List.drop_left' hl, List.drop_left' rfl]
theorem numS_short {l : Bs} {k : Nat} (h : l.length < k) : numS (some l) k = (0, none) := by
  have hok : getOk l 0 k = false := by
    simp [getOk]
    try omega
  simp [numS, hok]
theorem textS_short {t tl : Bs} (ht : t.length < 65536) {c : Nat} (hc : c < 2 + t.length) : textS (some ((laidL t.length 2 ++ t ++ tl).take c)) = ([], none) := by
  have hl := laidL_length t.length 2
  have hlen : ((laidL t.length 2 ++ t ++ tl).take c).length = c := by
    rw [List.length_take, List.length_append, List.length_append, hl]
    omega
  have hok : textOk ((laidL t.length 2 ++ t ++ tl).take c) = false := by
    rw [textOk, hlen]
    rcases Nat.lt_or_ge c 2 with h2 | h2
    · simp
      omega
    · have h1 : ((laidL t.length 2 ++ t ++ tl).take c).take 2 = laidL t.length 2 := by
        rw [List.take_take, Nat.min_eq_left h2, List.append_assoc, List.take_left' hl]
      rw [h1, num_back (by simpa using ht)]
      simp
      omega
  simp only [textS, hok, Bool.false_eq_true, if_false]
theorem bytes_length (p : Part) : p.bytes.length = if p.is then 2 + p.text.length else p.width := by
  unfold Part.bytes
  split
  · rw [List.length_append, laidL_length]
  · rw [laidL_length]
theorem step_front {p : Part} (h : p.ok) (ht : p.text.length < 65536) (tl : Bs) : stepS (some (p.bytes ++ tl)) p = some tl := by
  have hw := p.width_le
  unfold stepS Part.bytes
  split
  · rw [textS_front ht]
  · rw [numS_front hw.1 hw.2 (Part.num_lt h)]
theorem step_short {p : Part} (ht : p.text.length < 65536) {tl : Bs} {c : Nat} (hc : c < p.bytes.length) : stepS (some ((p.bytes ++ tl).take c)) p = none := by
  rw [bytes_length] at hc
  unfold stepS Part.bytes
  cases hi : p.is
  · rw [hi] at hc
    simp only [Bool.false_eq_true, if_false] at hc ⊢
    rw [numS_short (by rw [List.length_take]; omega)]
  · rw [hi] at hc
    simp only [if_true] at hc ⊢
    rw [textS_short ht hc]
theorem step_none (p : Part) : stepS none p = none := by
  unfold stepS
  split <;> rfl
theorem fold_none : ∀ l : List Part, l.foldl stepS none = none
  | [] => rfl
  | p :: l => by rw [List.foldl_cons, step_none, fold_none l]
/-- A row that is cut breaks its reader. -/
theorem fold_cut : ∀ (l : List Part), (∀ p ∈ l, p.ok ∧ p.text.length < 65536) → ∀ c, c < (rowL l).length → l.foldl stepS (some ((rowL l).take c)) = none
  | [], _, c, hc => by simp [rowL] at hc
  | p :: l, h, c, hc => by
    have hp := h p (List.mem_cons_self ..)
    have hr : rowL (p :: l) = p.bytes ++ rowL l := by simp [rowL]
    rw [hr] at hc ⊢
    rw [List.foldl_cons]
    rcases Nat.lt_or_ge c p.bytes.length with h1 | h1
    · rw [step_short hp.2 h1, fold_none]
    · rw [List.take_append, List.take_of_length_le h1, step_front hp.1 hp.2]
      exact fold_cut l (fun q hq => h q (List.mem_cons_of_mem _ hq)) _ (by rw [List.length_append] at hc; omega)
theorem rowL_snoc (l : List Part) (p : Part) : rowL (l ++ [p]) = rowL l ++ p.bytes := by simp [rowL]

end Go.Proofs.Ytkfienjlmnbonaa.Oct

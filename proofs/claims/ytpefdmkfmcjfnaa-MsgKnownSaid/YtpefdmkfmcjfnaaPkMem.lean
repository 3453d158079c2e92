import Derived.WalkLawsBesides
import Derived.WalkSpells
import Derived.Maps.OwnIn
import Derived.ProofKit
import Derived.Test.YtpefdmkfmcjfnaaRows
import Derived.BigQuiet
import Derived.Lib.QuietBelow
import Derived.Lib.Hide
import Derived.Deep.RegionHeld3
import Derived.Deep.CutBlock
import Derived.Deep.AppendLies
import Derived.Laws.AppendOwnNone
import Derived.StillTailTactics
import Derived.Lib.MinMax
import Derived.Lib.Strings
import Derived.DataShut

namespace Go.Proofs.Ytpefdmkfmcjfnaa.Mem
open Go.RowKit
def At (w : World) (g : Nat) (t : TypeId) (cs : Array Value) : Prop := w.heap[g]? = some (.cells cs t (0, 0))
variable {w v : World} {g : Nat} {t : TypeId} {cs : Array Value}
theorem At.cell (h : At w g t cs) (i : Nat) : w.cell? ⟨g, i, none⟩ = cs[i]? := cell_of_row w g i cs t (0, 0) h
theorem At.free (h : At w g t cs) (i : Nat) : w.frozen? ⟨g, i, none⟩ = false := by
 simp only [At] at h
 simp [World.frozen?, h]
theorem At.inside (h : At w g t cs) : g < w.heap.size := (Array.getElem?_eq_some_iff.1 h).1
theorem At.keep {B : Nat} (h : At w g t cs) (hb : Below B w v) (hg : g < B) : At v g t cs := (hb.block g hg).trans h
theorem At.drew (h : At w g t cs) : At w.drew g t cs := h
theorem At.alloc (h : At w g t cs) (o : Obj) : At (w.alloc o) g t cs := (Below.heap_alloc w o g h.inside).trans h
theorem At.new (w : World) (t : TypeId) (cs : Array Value) : At (w.alloc (.cells cs t)) w.heap.size t cs := heap_alloc_new w _
theorem At.new_ (w : World) (t : TypeId) (cs : Array Value) {n : Nat} (hn : n = w.heap.size) : At (w.alloc (.cells cs t)) n t cs := by subst hn; exact At.new w t cs
theorem At.put (h : At w g t cs) (i : Nat) (x : Value) : At (w.setCell ⟨g, i, none⟩ x) g t (cs.setIfInBounds i x) := by
 simp only [At] at h ⊢
 simp [World.setCell, Array.getElem?_modify, h]
theorem At.far (h : At w g t cs) {b : Nat} (hb : g ≠ b) (i : Nat) (x : Value) : At (w.setCell ⟨b, i, none⟩ x) g t cs := (Below.heap_setCell w ⟨b, i, none⟩ x g hb).trans h
end Go.Proofs.Ytpefdmkfmcjfnaa.Mem
namespace Go.Proofs.Ytpefdmkfmcjfnaa.Route
open Go.RowKit Go.Proofs.Ytpefdmkfmcjfnaa.Mem
set_option linter.unusedVariables false
theorem ret_int {k : IntKind} {a b : Int} (h : a = b) : Ending.returned (.int k a) = .returned (.int k b) := by rw [h]
theorem ret_bool {a b : Bool} (h : a = b) : Ending.returned (.bool a) = .returned (.bool b) := by rw [h]
def RowB (B : Nat) (W : World) (v : Value) (m : Nat) (rows : List (List Value)) : Prop :=
 ∃ x cap, v = .slice x rows.length cap ∧ rows.length ≤ cap ∧ cap ≤ maxLen ∧ (x = none → rows = [] ∧ cap = 0) ∧
  ∀ j r, rows[j]? = some r → ∃ g o, x = some ⟨g, o, none⟩ ∧ g < B ∧ ∀ k u, r[k]? = some u → W.cell? ⟨g, o + j * m + k, none⟩ = some u
theorem RowB.keep {B C : Nat} {W W' : World} {v : Value} {m : Nat} {rows : List (List Value)} (h : RowB B W v m rows) (hb : Below C W W') (hB : B ≤ C) : RowB B W' v m rows := by
 obtain ⟨x, cap, rfl, h1, h2, h0, h3⟩ := h
 refine ⟨x, cap, rfl, h1, h2, h0, fun j r hj => ?_⟩
 obtain ⟨g, o, rfl, hg, hc⟩ := h3 j r hj
 exact ⟨g, o, rfl, hg, fun k u hk => (hb.cell (p := ⟨g, o + j * m + k, none⟩) (by show g < C; omega)).trans (hc k u hk)⟩
theorem RowB.more {B C : Nat} {W : World} {v : Value} {m : Nat} {rows : List (List Value)} (h : RowB B W v m rows) (hB : B ≤ C) : RowB C W v m rows := by
 obtain ⟨x, cap, rfl, h1, h2, h0, h3⟩ := h
 refine ⟨x, cap, rfl, h1, h2, h0, fun j r hj => ?_⟩
 obtain ⟨g, o, rfl, hg, hc⟩ := h3 j r hj
 exact ⟨g, o, rfl, by omega, hc⟩
theorem RowB.on {W W' : World} {v : Value} {m : Nat} {rows : List (List Value)} (h : RowB W.heap.size W v m rows) (hb : Below W.heap.size W W') : RowB W'.heap.size W' v m rows := (h.keep hb (Nat.le_refl _)).more hb.size
theorem RowB.row {B : Nat} {W : World} {x : Option Addr} {n cap m : Nat} {rows : List (List Value)} (h : RowB B W (.slice x n cap) m rows) {j : Nat} {r : List Value} (hj : rows[j]? = some r) :
 ∃ g o, x = some ⟨g, o, none⟩ ∧ g < B ∧ ∀ k u, r[k]? = some u → W.cell? ⟨g, o + j * m + k, none⟩ = some u := by
 obtain ⟨x', cap', e, _, _, _, h3⟩ := h
 cases e
 exact h3 j r hj
def stV (s : Int × Int) : List Value := [.int .i64 s.1, .int .i64 s.2]
def inV (r : Int) : List Value := [.int .i64 r]
def Row (B : Nat) (W : World) (v : Value) (l : List (Int × Int)) : Prop := RowB B W v 2 (l.map stV)
def Ints (B : Nat) (W : World) (v : Value) (l : List Int) : Prop := RowB B W v 1 (l.map inV)
def flatS (l : List (Int × Int)) : List Value := (l.map stV).flatten
def flatI (l : List Int) : List Value := (l.map inV).flatten
theorem flat_get {α : Type} {m : Nat} : ∀ {rows : List (List α)}, (∀ r ∈ rows, r.length = m) → ∀ j r, rows[j]? = some r → ∀ k u, r[k]? = some u → rows.flatten[j * m + k]? = some u
 | [], _, j, r, hj, _, _, _ => by simp at hj
 | r0 :: rows, hm, j, r, hj, k, u, hk => by
  have h0 := hm r0 (List.mem_cons_self ..)
  rw [List.flatten_cons]
  cases j with
  | zero =>
   simp at hj
   subst hj
   have := (List.getElem?_eq_some_iff.1 hk).1
   rw [List.getElem?_append_left (by omega)]
   simpa using hk
  | succ j =>
   have hj' : rows[j]? = some r := by simpa using hj
   have ih := flat_get (fun r hr => hm r (List.mem_cons_of_mem _ hr)) j r hj' k u hk
   rw [List.getElem?_append_right (by rw [h0, Nat.succ_mul]; omega), h0, show (j + 1) * m + k - m = j * m + k by rw [Nat.succ_mul]; omega]
   exact ih
theorem flat_of {α : Type} {m : Nat} (hm : 0 < m) : ∀ {rows : List (List α)}, (∀ r ∈ rows, r.length = m) → ∀ i u, rows.flatten[i]? = some u → ∃ j k r, i = j * m + k ∧ rows[j]? = some r ∧ r[k]? = some u
 | [], _, i, u, h => by simp at h
 | r0 :: rows, hl, i, u, h => by
  have h0 := hl r0 (List.mem_cons_self ..)
  rw [List.flatten_cons] at h
  rcases Nat.lt_or_ge i r0.length with hi | hi
  · rw [List.getElem?_append_left hi] at h
    exact ⟨0, i, r0, by omega, rfl, h⟩
  · rw [List.getElem?_append_right hi] at h
    obtain ⟨j, k, r, e, h1, h2⟩ := flat_of hm (fun r hr => hl r (List.mem_cons_of_mem _ hr)) _ u h
    exact ⟨j + 1, k, r, by rw [Nat.succ_mul]; omega, by simpa using h1, h2⟩
theorem RowB.nil (B : Nat) (W : World) (m : Nat) : RowB B W (.slice none 0 0) m [] := ⟨none, 0, rfl, Nat.le_refl _, Nat.zero_le _, fun _ => ⟨rfl, rfl⟩, fun j r hj => by simp at hj⟩
theorem RowB.of_at {B : Nat} {W : World} {g m cap : Nat} {t : TypeId} {cs : Array Value} {rows : List (List Value)} (h : At W g t cs) (hg : g < B) (hm : ∀ r ∈ rows, r.length = m) (hcs : ∀ (i : Nat) (u : Value), rows.flatten[i]? = some u → cs[i]? = some u) (hc : rows.length ≤ cap) (hcap : cap ≤ maxLen) :
 RowB B W (.slice (some ⟨g, 0, none⟩) rows.length cap) m rows :=
 ⟨_, cap, rfl, hc, hcap, fun e => (by cases e), fun j r hj => ⟨g, 0, rfl, hg, fun k u hk => by
  rw [Nat.zero_add]
  exact (h.cell _).trans (hcs _ _ (flat_get hm j r hj k u hk))⟩⟩
theorem RowB.of_owns {B : Nat} {W : World} {base m n : Nat} {e : TypeId} {v : Value} {rows : List (List Value)} (h : W.ownsRow base e m v n rows.flatten) (hn : n = rows.length) (hm : ∀ r ∈ rows, r.length = m) (hB : W.heap.size ≤ B) : RowB B W v m rows := by
 subst hn
 obtain ⟨hl, ⟨rfl, h0⟩ | ⟨g, cap, cur, rfl, hb, hg, hc1, hc2, hs, ht⟩⟩ := h
 · obtain rfl : rows = [] := List.eq_nil_of_length_eq_zero h0
   exact .nil B W m
 · refine RowB.of_at (t := e) (cs := cur) hg (Nat.lt_of_lt_of_le (Array.getElem?_eq_some_iff.1 hg).1 hB) hm (fun i u hu => ?_) hc1 hc2
   have hi : i < rows.length * m := by
    have := (List.getElem?_eq_some_iff.1 hu).1
    omega
   rw [← ht, List.getElem?_take_of_lt hi] at hu
   simpa using hu
theorem Row.of_owns {B : Nat} {W : World} {base n : Nat} {e : TypeId} {v : Value} {l : List (Int × Int)} (h : W.ownsRow base e 2 v n (flatS l)) (hn : n = l.length) (hB : W.heap.size ≤ B) : Row B W v l :=
 RowB.of_owns h (by simpa using hn) (fun r hr => by obtain ⟨s, _, rfl⟩ := List.mem_map.1 hr; rfl) hB
theorem Ints.of_owns {B : Nat} {W : World} {base n : Nat} {e : TypeId} {v : Value} {l : List Int} (h : W.ownsRow base e 1 v n (flatI l)) (hn : n = l.length) (hB : W.heap.size ≤ B) : Ints B W v l :=
 RowB.of_owns h (by simpa using hn) (fun r hr => by obtain ⟨s, _, rfl⟩ := List.mem_map.1 hr; rfl) hB
theorem Row.keep {B C : Nat} {W W' : World} {v : Value} {l : List (Int × Int)} (h : Row B W v l) (hb : Below C W W') (hB : B ≤ C) : Row B W' v l := RowB.keep h hb hB
theorem Row.more {B C : Nat} {W : World} {v : Value} {l : List (Int × Int)} (h : Row B W v l) (hB : B ≤ C) : Row C W v l := RowB.more h hB
theorem Row.on {W W' : World} {v : Value} {l : List (Int × Int)} (h : Row W.heap.size W v l) (hb : Below W.heap.size W W') : Row W'.heap.size W' v l := RowB.on h hb
theorem Ints.keep {B C : Nat} {W W' : World} {v : Value} {l : List Int} (h : Ints B W v l) (hb : Below C W W') (hB : B ≤ C) : Ints B W' v l := RowB.keep h hb hB
theorem Ints.on {W W' : World} {v : Value} {l : List Int} (h : Ints W.heap.size W v l) (hb : Below W.heap.size W W') : Ints W'.heap.size W' v l := RowB.on h hb
theorem Row.slice {B : Nat} {W : World} {v : Value} {l : List (Int × Int)} (h : Row B W v l) : ∃ x cap, v = .slice x l.length cap ∧ l.length ≤ cap ∧ cap ≤ maxLen ∧ (x = none → l = [] ∧ cap = 0) := by
 obtain ⟨x, cap, rfl, h1, h2, h0, _⟩ := h
 refine ⟨x, cap, by simp, by simpa using h1, h2, fun e => ?_⟩
 have := h0 e
 simpa using this
theorem Ints.slice {B : Nat} {W : World} {v : Value} {l : List Int} (h : Ints B W v l) : ∃ x cap, v = .slice x l.length cap ∧ l.length ≤ cap ∧ cap ≤ maxLen := by
 obtain ⟨x, cap, rfl, h1, h2, _, _⟩ := h
 exact ⟨x, cap, by simp, by simpa using h1, h2⟩
theorem Row.stop {B : Nat} {W : World} {x : Option Addr} {n cap : Nat} {l : List (Int × Int)} (h : Row B W (.slice x n cap) l) {k : Nat} {s : Int × Int} (hk : l[k]? = some s) :
 ∃ g o, x = some ⟨g, o, none⟩ ∧ g < B ∧ W.cell? ⟨g, o + k * 2, none⟩ = some (.int .i64 s.1) ∧ W.cell? ⟨g, o + k * 2 + 1, none⟩ = some (.int .i64 s.2) := by
 obtain ⟨g, o, e, hg, hc⟩ := RowB.row h (j := k) (r := stV s) (by rw [List.getElem?_map, hk]; rfl)
 exact ⟨g, o, e, hg, hc 0 _ rfl, hc 1 _ rfl⟩
theorem info_parts {t : TypeId} {n bytes : Nat} {z : Value} (h : (Try.prog.info? t).map (fun i => (i.zero, i.size, i.bytes)) = some (some z, n, bytes)) :
 ∃ i, Try.prog.info? t = some i ∧ i.zero = some z ∧ i.size = n ∧ i.bytes = bytes := by
 cases hi : Try.prog.info? t with
 | none => rw [hi] at h; simp at h
 | some i =>
  rw [hi] at h
  simp at h
  exact ⟨i, rfl, h.1, h.2.1, h.2.2⟩
end Go.Proofs.Ytpefdmkfmcjfnaa.Route
namespace Go.Proofs.Ytpefdmkfmcjfnaa.Oct
set_option linter.unusedVariables false
abbrev Bs := List UInt8
abbrev str (l : Bs) : ByteArray := ⟨l.toArray⟩
theorem str_inj {a b : Bs} (h : str a = str b) : a = b := by
 have := congrArg (fun s : ByteArray => s.data.toList) h
 simpa [str] using this
theorem str_size (l : Bs) : (str l).size = l.length := rfl
theorem str_append (a b : Bs) : str a ++ str b = str (a ++ b) := ByteArray.mk_append_mk a b
theorem str_cut (l : Bs) (a b : Nat) : (str l).extract a b = str ((l.drop a).take (b - a)) := ByteArray.extract_mk l a b
theorem str_from (l : Bs) (a : Nat) : (str l).extract a l.length = str (l.drop a) := by
 rw [str_cut, List.take_of_length_le (by simp)]
theorem str_to (l : Bs) (b : Nat) : (str l).extract 0 b = str (l.take b) := by
 rw [str_cut]
 rfl
def laidL (n : Nat) : Nat → Bs
 | 0 => []
 | k + 1 => UInt8.ofNat (n / 2 ^ (8 * k) % 256) :: laidL n k
def numL (l : Bs) : Nat := l.foldl (fun a b => a * 256 + b.toNat) 0
theorem laidL_length (n : Nat) : ∀ k, (laidL n k).length = k
 | 0 => rfl
 | k + 1 => by
  unfold laidL
  rw [List.length_cons, laidL_length n k]
theorem laidL_get (n : Nat) : ∀ (k i : Nat), i < k → (laidL n k)[i]? = some (UInt8.ofNat (n / 2 ^ (8 * (k - 1 - i)) % 256))
 | 0, i, h => by omega
 | k + 1, 0, _ => by simp [laidL]
 | k + 1, i + 1, h => by
  unfold laidL
  rw [List.getElem?_cons_succ, laidL_get n k i (by omega), show k + 1 - 1 - (i + 1) = k - 1 - i by omega]
theorem byte_of (n : Nat) : (UInt8.ofNat (n % 256)).toNat = n % 256 := by
 rw [UInt8.toNat_ofNat']
 omega
theorem num_fold (l : Bs) : ∀ a, l.foldl (fun a b => a * 256 + b.toNat) a = a * 2 ^ (8 * l.length) + numL l := by
 induction l with
 | nil => intro a; simp [numL]
 | cons b l ih =>
  intro a
  have h0 : numL (b :: l) = (0 * 256 + b.toNat) * 2 ^ (8 * l.length) + numL l := by
   unfold numL
   rw [List.foldl_cons, ih]
   rfl
  rw [List.foldl_cons, ih, h0, List.length_cons, Nat.mul_add, Nat.pow_add]
  simp only [Nat.zero_mul, Nat.zero_add, Nat.mul_one]
  rw [show (2 : Nat) ^ 8 = 256 from rfl, Nat.add_mul, Nat.mul_assoc, Nat.mul_comm 256, Nat.add_assoc]
theorem num_cons (b : UInt8) (l : Bs) : numL (b :: l) = b.toNat * 2 ^ (8 * l.length) + numL l := by
 unfold numL
 rw [List.foldl_cons, num_fold]
 simp [numL]
theorem num_snoc (l : Bs) (b : UInt8) : numL (l ++ [b]) = numL l * 256 + b.toNat := by
 unfold numL
 rw [List.foldl_append]
 rfl
theorem num_lt : ∀ l : Bs, numL l < 2 ^ (8 * l.length)
 | [] => by decide
 | b :: l => by
  have h := num_lt l
  have hb := b.toNat_lt
  rw [num_cons, List.length_cons, Nat.mul_add, Nat.pow_add]
  have : b.toNat * 2 ^ (8 * l.length) + 2 ^ (8 * l.length) ≤ 2 ^ (8 * l.length) * 2 ^ (8 * 1) := by
   rw [← Nat.succ_mul, Nat.mul_comm]
   exact Nat.mul_le_mul_left _ (by omega)
  omega
theorem num_laid (n : Nat) : ∀ k, numL (laidL n k) = n % 2 ^ (8 * k)
 | 0 => by simp [laidL, numL, Nat.mod_one]
 | k + 1 => by
  unfold laidL
  rw [num_cons, laidL_length, num_laid n k, byte_of, Nat.mul_add, Nat.pow_add, Nat.mod_mul]
  rw [show (2 : Nat) ^ (8 * 1) = 256 from rfl, Nat.mul_comm, Nat.add_comm]
theorem num_back {n k : Nat} (h : n < 2 ^ (8 * k)) : numL (laidL n k) = n := by rw [num_laid, Nat.mod_eq_of_lt h]
def isW (k : Int) : Bool := decide (1 ≤ k ∧ k ≤ 8)
def putE (n : Nat) (k : Int) : Int := if isW k then (if n < 2 ^ (8 * k.toNat) then 0 else 3) else 2
def putB (s : Bs) (n : Nat) (k : Int) : Bs := if isW k then (if n < 2 ^ (8 * k.toNat) then s ++ laidL n k.toNat else []) else []
def getOk (l : Bs) (at_ k : Int) : Bool := decide (1 ≤ k ∧ k ≤ 8 ∧ 0 ≤ at_ ∧ at_ ≤ (l.length : Int) - k)
def getN (l : Bs) (at_ k : Int) : Nat := if getOk l at_ k then numL ((l.drop at_.toNat).take k.toNat) else 0
abbrev St := Option Bs
def endS : St → Int
 | none => 14
 | some [] => 0
 | some (_ :: _) => 15
def numS (st : St) (k : Int) : Nat × St :=
 match st with
 | some l => if getOk l 0 k then (numL (l.take k.toNat), some (l.drop k.toNat)) else (0, none)
 | none => (0, none)
structure Part where
 n : Nat
 w : Nat
 text : Bs
 is : Bool
def Part.width (p : Part) : Nat := 1 + p.w % 8
def Part.num (p : Part) : Nat := p.n / 2 ^ (8 * (8 - p.width))
def Part.ok (p : Part) : Prop := p.n < 18446744073709551616 ∧ p.w < 256
def Part.cut (p : Part) : Part := { p with text := p.text.take 300 }
def Part.bytes (p : Part) : Bs := if p.is then laidL p.text.length 2 ++ p.text else laidL p.num p.width
theorem Part.width_le (p : Part) : 1 ≤ p.width ∧ p.width ≤ 8 := by unfold Part.width; omega
theorem Part.num_lt {p : Part} (h : p.ok) : p.num < 2 ^ (8 * p.width) := by
 have hw := p.width_le
 have h1 := h.1
 unfold Part.num
 rw [Nat.div_lt_iff_lt_mul (Nat.pow_pos (by decide)), ← Nat.pow_add, show 8 * p.width + 8 * (8 - p.width) = 64 by omega]
 exact h1
theorem numS_front {n k : Nat} (h1 : 1 ≤ k) (h8 : k ≤ 8) (hn : n < 2 ^ (8 * k)) (tl : Bs) : numS (some (laidL n k ++ tl)) k = (n, some tl) := by
 have hl := laidL_length n k
 have hok : getOk (laidL n k ++ tl) 0 k = true := by
  simp [getOk, hl]
  omega
 simp only [numS, hok, if_true, Int.toNat_natCast]
 rw [List.take_left' hl, List.drop_left' hl, num_back hn]
end Go.Proofs.Ytpefdmkfmcjfnaa.Oct

import Derived.WalkLawsBesides
import Derived.WalkSpells
import Derived.Maps.OwnIn
import Derived.ProofKit
import Derived.Test.YtpefdmkfmcjfnaaRows
import Derived.Lib.BufferWrite
import Derived.BigQuiet
import Derived.Lib.QuietBelow
import Derived.Lib.Hide
import Derived.Deep.RegionHeld3
import Derived.Deep.CutBlock
import Derived.Deep.AppendLies
import Derived.Laws.AppendOwnNone
import Derived.StillTailTactics
import Derived.Lib.MinMax
import Derived.DataShut

namespace Go.Proofs.Ytpefdmkfmcjfnaa.Mem
open Go.RowKit
def At (w : World) (g : Nat) (t : TypeId) (cs : Array Value) : Prop := w.heap[g]? = some (.cells cs t (0, 0))
variable {w v : World} {g : Nat} {t : TypeId} {cs : Array Value}
theorem At.cell (h : At w g t cs) (i : Nat) : w.cell? ⟨g, i, none⟩ = cs[i]? := cell_of_row w g i cs t (0, 0) h
theorem At.free (h : At w g t cs) (i : Nat) : w.frozen? ⟨g, i, none⟩ = false := by
 simp only [At] at h
 simp [World.frozen?, h]
theorem At.inside (h : At w g t cs) : g < w.heap.size := (Array.getElem?_eq_some_iff.1 h).1
theorem At.keep {B : Nat} (h : At w g t cs) (hb : Below B w v) (hg : g < B) : At v g t cs := (hb.block g hg).trans h
theorem At.drew (h : At w g t cs) : At w.drew g t cs := h
theorem At.alloc (h : At w g t cs) (o : Obj) : At (w.alloc o) g t cs := (Below.heap_alloc w o g h.inside).trans h
theorem At.new (w : World) (t : TypeId) (cs : Array Value) : At (w.alloc (.cells cs t)) w.heap.size t cs := heap_alloc_new w _
theorem At.new_ (w : World) (t : TypeId) (cs : Array Value) {n : Nat} (hn : n = w.heap.size) : At (w.alloc (.cells cs t)) n t cs := by subst hn; exact At.new w t cs
theorem At.put (h : At w g t cs) (i : Nat) (x : Value) : At (w.setCell ⟨g, i, none⟩ x) g t (cs.setIfInBounds i x) := by
 simp only [At] at h ⊢
 simp [World.setCell, Array.getElem?_modify, h]
theorem At.far (h : At w g t cs) {b : Nat} (hb : g ≠ b) (i : Nat) (x : Value) : At (w.setCell ⟨b, i, none⟩ x) g t cs := (Below.heap_setCell w ⟨b, i, none⟩ x g hb).trans h
end Go.Proofs.Ytpefdmkfmcjfnaa.Mem
namespace Go.Proofs.Ytpefdmkfmcjfnaa.Route
open Go.RowKit Go.Proofs.Ytpefdmkfmcjfnaa.Mem
set_option linter.unusedVariables false
theorem ret_int {k : IntKind} {a b : Int} (h : a = b) : Ending.returned (.int k a) = .returned (.int k b) := by rw [h]
theorem ret_bool {a b : Bool} (h : a = b) : Ending.returned (.bool a) = .returned (.bool b) := by rw [h]
def I64 (r : Int) : Prop := -9223372036854775808 ≤ r ∧ r ≤ 9223372036854775807
theorem I64.wf {r : Int} (h : I64 r) : (Lit.int .i64 r).wf = true := (Lit.wf_int_iff _ _).2 ⟨by have := h.1; simp [IntKind.min, IntKind.bits, IntKind.signed]; omega, by have := h.2; simp [IntKind.max, IntKind.bits, IntKind.signed]; omega⟩
def RowB (B : Nat) (W : World) (v : Value) (m : Nat) (rows : List (List Value)) : Prop :=
 ∃ x cap, v = .slice x rows.length cap ∧ rows.length ≤ cap ∧ cap ≤ maxLen ∧ (x = none → rows = [] ∧ cap = 0) ∧
  ∀ j r, rows[j]? = some r → ∃ g o, x = some ⟨g, o, none⟩ ∧ g < B ∧ ∀ k u, r[k]? = some u → W.cell? ⟨g, o + j * m + k, none⟩ = some u
theorem RowB.keep {B C : Nat} {W W' : World} {v : Value} {m : Nat} {rows : List (List Value)} (h : RowB B W v m rows) (hb : Below C W W') (hB : B ≤ C) : RowB B W' v m rows := by
 obtain ⟨x, cap, rfl, h1, h2, h0, h3⟩ := h
 refine ⟨x, cap, rfl, h1, h2, h0, fun j r hj => ?_⟩
 obtain ⟨g, o, rfl, hg, hc⟩ := h3 j r hj
 exact ⟨g, o, rfl, hg, fun k u hk => (hb.cell (p := ⟨g, o + j * m + k, none⟩) (by show g < C; omega)).trans (hc k u hk)⟩
theorem RowB.more {B C : Nat} {W : World} {v : Value} {m : Nat} {rows : List (List Value)} (h : RowB B W v m rows) (hB : B ≤ C) : RowB C W v m rows := by
 obtain ⟨x, cap, rfl, h1, h2, h0, h3⟩ := h
 refine ⟨x, cap, rfl, h1, h2, h0, fun j r hj => ?_⟩
 obtain ⟨g, o, rfl, hg, hc⟩ := h3 j r hj
 exact ⟨g, o, rfl, by omega, hc⟩
theorem RowB.on {W W' : World} {v : Value} {m : Nat} {rows : List (List Value)} (h : RowB W.heap.size W v m rows) (hb : Below W.heap.size W W') : RowB W'.heap.size W' v m rows := (h.keep hb (Nat.le_refl _)).more hb.size
theorem RowB.row {B : Nat} {W : World} {x : Option Addr} {n cap m : Nat} {rows : List (List Value)} (h : RowB B W (.slice x n cap) m rows) {j : Nat} {r : List Value} (hj : rows[j]? = some r) :
 ∃ g o, x = some ⟨g, o, none⟩ ∧ g < B ∧ ∀ k u, r[k]? = some u → W.cell? ⟨g, o + j * m + k, none⟩ = some u := by
 obtain ⟨x', cap', e, _, _, _, h3⟩ := h
 cases e
 exact h3 j r hj
def stV (s : Int × Int) : List Value := [.int .i64 s.1, .int .i64 s.2]
def inV (r : Int) : List Value := [.int .i64 r]
def Row (B : Nat) (W : World) (v : Value) (l : List (Int × Int)) : Prop := RowB B W v 2 (l.map stV)
def Ints (B : Nat) (W : World) (v : Value) (l : List Int) : Prop := RowB B W v 1 (l.map inV)
def flatS (l : List (Int × Int)) : List Value := (l.map stV).flatten
def flatI (l : List Int) : List Value := (l.map inV).flatten
theorem flat_get {α : Type} {m : Nat} : ∀ {rows : List (List α)}, (∀ r ∈ rows, r.length = m) → ∀ j r, rows[j]? = some r → ∀ k u, r[k]? = some u → rows.flatten[j * m + k]? = some u
 | [], _, j, r, hj, _, _, _ => by simp at hj
 | r0 :: rows, hm, j, r, hj, k, u, hk => by
  have h0 := hm r0 (List.mem_cons_self ..)
  rw [List.flatten_cons]
  cases j with
  | zero =>
   simp at hj
   subst hj
   have := (List.getElem?_eq_some_iff.1 hk).1
   rw [List.getElem?_append_left (by omega)]
   simpa using hk
  | succ j =>
   have hj' : rows[j]? = some r := by simpa using hj
   have ih := flat_get (fun r hr => hm r (List.mem_cons_of_mem _ hr)) j r hj' k u hk
   rw [List.getElem?_append_right (by rw [h0, Nat.succ_mul]; omega), h0, show (j + 1) * m + k - m = j * m + k by rw [Nat.succ_mul]; omega]
   exact ih
theorem flat_of {α : Type} {m : Nat} (hm : 0 < m) : ∀ {rows : List (List α)}, (∀ r ∈ rows, r.length = m) → ∀ i u, rows.flatten[i]? = some u → ∃ j k r, i = j * m + k ∧ rows[j]? = some r ∧ r[k]? = some u
 | [], _, i, u, h => by simp at h
 | r0 :: rows, hl, i, u, h => by
  have h0 := hl r0 (List.mem_cons_self ..)
  rw [List.flatten_cons] at h
  rcases Nat.lt_or_ge i r0.length with hi | hi
  · rw [List.getElem?_append_left hi] at h
    exact ⟨0, i, r0, by omega, rfl, h⟩
  · rw [List.getElem?_append_right hi] at h
    obtain ⟨j, k, r, e, h1, h2⟩ := flat_of hm (fun r hr => hl r (List.mem_cons_of_mem _ hr)) _ u h
    exact ⟨j + 1, k, r, by rw [Nat.succ_mul]; omega, by simpa using h1, h2⟩
theorem RowB.nil (B : Nat) (W : World) (m : Nat) : RowB B W (.slice none 0 0) m [] := ⟨none, 0, rfl, Nat.le_refl _, Nat.zero_le _, fun _ => ⟨rfl, rfl⟩, fun j r hj => by simp at hj⟩
theorem RowB.of_at {B : Nat} {W : World} {g m cap : Nat} {t : TypeId} {cs : Array Value} {rows : List (List Value)} (h : At W g t cs) (hg : g < B) (hm : ∀ r ∈ rows, r.length = m) (hcs : ∀ (i : Nat) (u : Value), rows.flatten[i]? = some u → cs[i]? = some u) (hc : rows.length ≤ cap) (hcap : cap ≤ maxLen) :
 RowB B W (.slice (some ⟨g, 0, none⟩) rows.length cap) m rows :=
 ⟨_, cap, rfl, hc, hcap, fun e => (by cases e), fun j r hj => ⟨g, 0, rfl, hg, fun k u hk => by
  rw [Nat.zero_add]
  exact (h.cell _).trans (hcs _ _ (flat_get hm j r hj k u hk))⟩⟩
theorem RowB.of_owns {B : Nat} {W : World} {base m n : Nat} {e : TypeId} {v : Value} {rows : List (List Value)} (h : W.ownsRow base e m v n rows.flatten) (hn : n = rows.length) (hm : ∀ r ∈ rows, r.length = m) (hB : W.heap.size ≤ B) : RowB B W v m rows := by
 subst hn
 obtain ⟨hl, ⟨rfl, h0⟩ | ⟨g, cap, cur, rfl, hb, hg, hc1, hc2, hs, ht⟩⟩ := h
 · obtain rfl : rows = [] := List.eq_nil_of_length_eq_zero h0
   exact .nil B W m
 · refine RowB.of_at (t := e) (cs := cur) hg (Nat.lt_of_lt_of_le (Array.getElem?_eq_some_iff.1 hg).1 hB) hm (fun i u hu => ?_) hc1 hc2
   have hi : i < rows.length * m := by
    have := (List.getElem?_eq_some_iff.1 hu).1
    omega
   rw [← ht, List.getElem?_take_of_lt hi] at hu
   simpa using hu
theorem Row.of_owns {B : Nat} {W : World} {base n : Nat} {e : TypeId} {v : Value} {l : List (Int × Int)} (h : W.ownsRow base e 2 v n (flatS l)) (hn : n = l.length) (hB : W.heap.size ≤ B) : Row B W v l :=
 RowB.of_owns h (by simpa using hn) (fun r hr => by obtain ⟨s, _, rfl⟩ := List.mem_map.1 hr; rfl) hB
theorem Ints.of_owns {B : Nat} {W : World} {base n : Nat} {e : TypeId} {v : Value} {l : List Int} (h : W.ownsRow base e 1 v n (flatI l)) (hn : n = l.length) (hB : W.heap.size ≤ B) : Ints B W v l :=
 RowB.of_owns h (by simpa using hn) (fun r hr => by obtain ⟨s, _, rfl⟩ := List.mem_map.1 hr; rfl) hB
theorem Row.keep {B C : Nat} {W W' : World} {v : Value} {l : List (Int × Int)} (h : Row B W v l) (hb : Below C W W') (hB : B ≤ C) : Row B W' v l := RowB.keep h hb hB
theorem Row.more {B C : Nat} {W : World} {v : Value} {l : List (Int × Int)} (h : Row B W v l) (hB : B ≤ C) : Row C W v l := RowB.more h hB
theorem Row.on {W W' : World} {v : Value} {l : List (Int × Int)} (h : Row W.heap.size W v l) (hb : Below W.heap.size W W') : Row W'.heap.size W' v l := RowB.on h hb
theorem Ints.keep {B C : Nat} {W W' : World} {v : Value} {l : List Int} (h : Ints B W v l) (hb : Below C W W') (hB : B ≤ C) : Ints B W' v l := RowB.keep h hb hB
theorem Ints.on {W W' : World} {v : Value} {l : List Int} (h : Ints W.heap.size W v l) (hb : Below W.heap.size W W') : Ints W'.heap.size W' v l := RowB.on h hb
theorem Row.slice {B : Nat} {W : World} {v : Value} {l : List (Int × Int)} (h : Row B W v l) : ∃ x cap, v = .slice x l.length cap ∧ l.length ≤ cap ∧ cap ≤ maxLen ∧ (x = none → l = [] ∧ cap = 0) := by
 obtain ⟨x, cap, rfl, h1, h2, h0, _⟩ := h
 refine ⟨x, cap, by simp, by simpa using h1, h2, fun e => ?_⟩
 have := h0 e
 simpa using this
theorem Ints.slice {B : Nat} {W : World} {v : Value} {l : List Int} (h : Ints B W v l) : ∃ x cap, v = .slice x l.length cap ∧ l.length ≤ cap ∧ cap ≤ maxLen := by
 obtain ⟨x, cap, rfl, h1, h2, _, _⟩ := h
 exact ⟨x, cap, by simp, by simpa using h1, h2⟩
theorem Row.stop {B : Nat} {W : World} {x : Option Addr} {n cap : Nat} {l : List (Int × Int)} (h : Row B W (.slice x n cap) l) {k : Nat} {s : Int × Int} (hk : l[k]? = some s) :
 ∃ g o, x = some ⟨g, o, none⟩ ∧ g < B ∧ W.cell? ⟨g, o + k * 2, none⟩ = some (.int .i64 s.1) ∧ W.cell? ⟨g, o + k * 2 + 1, none⟩ = some (.int .i64 s.2) := by
 obtain ⟨g, o, e, hg, hc⟩ := RowB.row h (j := k) (r := stV s) (by rw [List.getElem?_map, hk]; rfl)
 exact ⟨g, o, e, hg, hc 0 _ rfl, hc 1 _ rfl⟩
theorem info_parts {t : TypeId} {n bytes : Nat} {z : Value} (h : (Try.prog.info? t).map (fun i => (i.zero, i.size, i.bytes)) = some (some z, n, bytes)) :
 ∃ i, Try.prog.info? t = some i ∧ i.zero = some z ∧ i.size = n ∧ i.bytes = bytes := by
 cases hi : Try.prog.info? t with
 | none => rw [hi] at h; simp at h
 | some i =>
  rw [hi] at h
  simp at h
  exact ⟨i, rfl, h.1, h.2.1, h.2.2⟩
end Go.Proofs.Ytpefdmkfmcjfnaa.Route
namespace Go.Proofs.Ytpefdmkfmcjfnaa.Oct
set_option linter.unusedVariables false
abbrev Bs := List UInt8
abbrev str (l : Bs) : ByteArray := ⟨l.toArray⟩
theorem str_inj {a b : Bs} (h : str a = str b) : a = b := by
 have := congrArg (fun s : ByteArray => s.data.toList) h
 simpa [str] using this
theorem str_size (l : Bs) : (str l).size = l.length := rfl
theorem str_append (a b : Bs) : str a ++ str b = str (a ++ b) := ByteArray.mk_append_mk a b
theorem str_cut (l : Bs) (a b : Nat) : (str l).extract a b = str ((l.drop a).take (b - a)) := ByteArray.extract_mk l a b
theorem str_from (l : Bs) (a : Nat) : (str l).extract a l.length = str (l.drop a) := by
 rw [str_cut, List.take_of_length_le (by simp)]
theorem str_to (l : Bs) (b : Nat) : (str l).extract 0 b = str (l.take b) := by
 rw [str_cut]
 rfl
def laidL (n : Nat) : Nat → Bs
 | 0 => []
 | k + 1 => UInt8.ofNat (n / 2 ^ (8 * k) % 256) :: laidL n k
def numL (l : Bs) : Nat := l.foldl (fun a b => a * 256 + b.toNat) 0
theorem laidL_length (n : Nat) : ∀ k, (laidL n k).length = k
 | 0 => rfl
 | k + 1 => by
  unfold laidL
  rw [List.length_cons, laidL_length n k]
theorem laidL_get (n : Nat) : ∀ (k i : Nat), i < k → (laidL n k)[i]? = some (UInt8.ofNat (n / 2 ^ (8 * (k - 1 - i)) % 256))
 | 0, i, h => by omega
 | k + 1, 0, _ => by simp [laidL]
 | k + 1, i + 1, h => by
  unfold laidL
  rw [List.getElem?_cons_succ, laidL_get n k i (by omega), show k + 1 - 1 - (i + 1) = k - 1 - i by omega]
theorem byte_of (n : Nat) : (UInt8.ofNat (n % 256)).toNat = n % 256 := by
 rw [UInt8.toNat_ofNat']
 omega
theorem num_fold (l : Bs) : ∀ a, l.foldl (fun a b => a * 256 + b.toNat) a = a * 2 ^ (8 * l.length) + numL l := by
 induction l with
 | nil => intro a; simp [numL]
 | cons b l ih =>
  intro a
  have h0 : numL (b :: l) = (0 * 256 + b.toNat) * 2 ^ (8 * l.length) + numL l := by
   unfold numL
   rw [List.foldl_cons, ih]
   rfl
  rw [List.foldl_cons, ih, h0, List.length_cons, Nat.mul_add, Nat.pow_add]
  simp only [Nat.zero_mul, Nat.zero_add, Nat.mul_one]
  rw [show (2 : Nat) ^ 8 = 256 from rfl, Nat.add_mul, Nat.mul_assoc, Nat.mul_comm 256, Nat.add_assoc]
theorem num_cons (b : UInt8) (l : Bs) : numL (b :: l) = b.toNat * 2 ^ (8 * l.length) + numL l := by
 unfold numL
 rw [List.foldl_cons, num_fold]
 simp [numL]
theorem num_snoc (l : Bs) (b : UInt8) : numL (l ++ [b]) = numL l * 256 + b.toNat := by
 unfold numL
 rw [List.foldl_append]
 rfl
theorem num_lt : ∀ l : Bs, numL l < 2 ^ (8 * l.length)
 | [] => by decide
 | b :: l => by
  have h := num_lt l
  have hb := b.toNat_lt
  rw [num_cons, List.length_cons, Nat.mul_add, Nat.pow_add]
  have : b.toNat * 2 ^ (8 * l.length) + 2 ^ (8 * l.length) ≤ 2 ^ (8 * l.length) * 2 ^ (8 * 1) := by
   rw [← Nat.succ_mul, Nat.mul_comm]
   exact Nat.mul_le_mul_left _ (by omega)
  omega
def isW (k : Int) : Bool := decide (1 ≤ k ∧ k ≤ 8)
def putE (n : Nat) (k : Int) : Int := if isW k then (if n < 2 ^ (8 * k.toNat) then 0 else 3) else 2
def putB (s : Bs) (n : Nat) (k : Int) : Bs := if isW k then (if n < 2 ^ (8 * k.toNat) then s ++ laidL n k.toNat else []) else []
def getOk (l : Bs) (at_ k : Int) : Bool := decide (1 ≤ k ∧ k ≤ 8 ∧ 0 ≤ at_ ∧ at_ ≤ (l.length : Int) - k)
def getN (l : Bs) (at_ k : Int) : Nat := if getOk l at_ k then numL ((l.drop at_.toNat).take k.toNat) else 0
abbrev St := Option Bs
def endS : St → Int
 | none => 14
 | some [] => 0
 | some (_ :: _) => 15
def numS (st : St) (k : Int) : Nat × St :=
 match st with
 | some l => if getOk l 0 k then (numL (l.take k.toNat), some (l.drop k.toNat)) else (0, none)
 | none => (0, none)
structure Part where
 n : Nat
 w : Nat
 text : Bs
 is : Bool
def Part.width (p : Part) : Nat := 1 + p.w % 8
def Part.num (p : Part) : Nat := p.n / 2 ^ (8 * (8 - p.width))
def Part.ok (p : Part) : Prop := p.n < 18446744073709551616 ∧ p.w < 256
def Part.cut (p : Part) : Part := { p with text := p.text.take 300 }
def Part.bytes (p : Part) : Bs := if p.is then laidL p.text.length 2 ++ p.text else laidL p.num p.width
theorem Part.width_le (p : Part) : 1 ≤ p.width ∧ p.width ≤ 8 := by unfold Part.width; omega
theorem Part.num_lt {p : Part} (h : p.ok) : p.num < 2 ^ (8 * p.width) := by
 have hw := p.width_le
 have h1 := h.1
 unfold Part.num
 rw [Nat.div_lt_iff_lt_mul (Nat.pow_pos (by decide)), ← Nat.pow_add, show 8 * p.width + 8 * (8 - p.width) = 64 by omega]
 exact h1
end Go.Proofs.Ytpefdmkfmcjfnaa.Oct
namespace Go.Proofs.Ytpefdmkfmcjfnaa.Oct
open Go.RowKit Go.Proofs.Ytpefdmkfmcjfnaa.Mem
set_option linter.unusedVariables false
variable {P : Program}
def AtL (w : World) (g : Nat) (t : TypeId) (cs : List Value) : Prop := At w g t cs.toArray
variable {w v : World} {g : Nat} {t : TypeId} {cs : List Value}
theorem AtL.at (h : AtL w g t cs) : w.heap[g]? = some (.cells cs.toArray t (0, 0)) := h
theorem AtL.inside (h : AtL w g t cs) : g < w.heap.size := At.inside h
theorem AtL.cell (h : AtL w g t cs) (i : Nat) : w.cell? ⟨g, i, none⟩ = cs[i]? := (At.cell h i).trans (by simp)
theorem AtL.get (h : AtL w g t cs) {i : Nat} {x : Value} (hx : cs[i]? = some x) : w.cell? ⟨g, i, none⟩ = some x := (h.cell i).trans hx
theorem AtL.free (h : AtL w g t cs) (i : Nat) : w.frozen? ⟨g, i, none⟩ = false := At.free h i
theorem AtL.keep {B : Nat} (h : AtL w g t cs) (hb : Below B w v) (hg : g < B) : AtL v g t cs := At.keep h hb hg
theorem AtL.on (h : AtL w g t cs) (hb : Below w.heap.size w v) : AtL v g t cs := At.keep h hb h.inside
theorem AtL.alloc (h : AtL w g t cs) (o : Obj) : AtL (w.alloc o) g t cs := At.alloc h o
theorem AtL.new (w : World) (t : TypeId) (cs : List Value) : AtL (w.alloc (.cells cs.toArray t)) w.heap.size t cs := At.new w t _
theorem AtL.put (h : AtL w g t cs) (i : Nat) (x : Value) : AtL (w.setCell ⟨g, i, none⟩ x) g t (cs.set i x) := by
 have := At.put h i x
 simpa [AtL] using this
theorem AtL.far (h : AtL w g t cs) {b : Nat} (hb : g ≠ b) (i : Nat) (x : Value) : AtL (w.setCell ⟨b, i, none⟩ x) g t cs := At.far h hb i x
theorem AtL.row (h : AtL w g t cs) (vs : List Value) : AtL (w.setRow g vs.toArray) g t vs := setRow_heap w g _ _ t _ h
theorem AtL.rowFar (h : AtL w g t cs) {b : Nat} (hb : g ≠ b) (vs : Array Value) : AtL (w.setRow b vs) g t cs := (setRow_other w b g vs hb).trans h
theorem below_row {B : Nat} (hb : Below B w v) (hg : B ≤ g) (cs : Array Value) : Below B w (v.setRow g cs) :=
 ⟨hb.os, hb.tape, hb.output, by rw [setRow_size]; exact hb.size, fun k hk => (setRow_other v g k cs (by omega)).trans (hb.block k hk)⟩
theorem below_set {B : Nat} (hb : Below B w v) (hg : B ≤ g) (i : Nat) (x : Value) : Below B w (v.setCell ⟨g, i, none⟩ x) := hb.setCell hg x
def u8V (b : UInt8) : Value := .int .u8 (b.toNat : Int)
theorem one_u8 {l : Bs} : ∀ v ∈ l.map u8V, v.oneCell' = true := by
 intro v hv
 obtain ⟨x, -, rfl⟩ := List.mem_map.1 hv
 rfl
theorem byteCells_u8 (l : Bs) : Lib.byteCells l = l.map u8V := rfl
def laidC (n k j : Nat) : List Value := (List.range 8).map fun i => Value.int .u8 (((if k - j ≤ i ∧ i < k then n / 2 ^ (8 * (k - 1 - i)) % 256 else 0) : Nat) : Int)
theorem laidC_none (n k : Nat) : laidC n k 0 = [.int .u8 0, .int .u8 0, .int .u8 0, .int .u8 0, .int .u8 0, .int .u8 0, .int .u8 0, .int .u8 0] := by
 unfold laidC
 have h : ∀ i, ¬ (k - 0 ≤ i ∧ i < k) := fun i => by omega
 simp only [h, if_false]
 rfl
theorem laidC_set {n k j : Nat} (hj : j < k) (hk : k ≤ 8) : (laidC n k j).set (k - 1 - j) (.int .u8 ((n / 2 ^ (8 * j) % 256 : Nat) : Int)) = laidC n k (j + 1) := by
 unfold laidC
 apply List.ext_getElem?
 intro i
 rw [List.getElem?_set]
 by_cases hi : i < 8
 · by_cases he : k - 1 - j = i
   · have h1 : k - (j + 1) ≤ i ∧ i < k := by omega
     have h2 : k - 1 - i = j := by omega
     have h3 : k - 1 - j < 8 := by omega
     simp only [List.getElem?_map, List.getElem?_range hi, Option.map_some, List.length_map, List.length_range]
     rw [if_pos he, if_pos h3, if_pos h1, h2]
   · have h1 : (k - j ≤ i ∧ i < k) ↔ (k - (j + 1) ≤ i ∧ i < k) := by omega
     rw [if_neg he, List.getElem?_map, List.getElem?_map, List.getElem?_range hi, Option.map_some, Option.map_some]
     simp only [h1]
 · have h1 : ∀ m, ((List.range 8).map fun i => Value.int .u8 (((if k - m ≤ i ∧ i < k then n / 2 ^ (8 * (k - 1 - i)) % 256 else 0) : Nat) : Int))[i]? = none := fun m => by
    rw [List.getElem?_eq_none]
    simpa using hi
   rw [h1, h1]
   simp
   omega
theorem laidC_get {n k i : Nat} (hi : i < k) (hk : k ≤ 8) {b : UInt8} (hb : (laidL n k)[i]? = some b) : (laidC n k k)[i]? = some (u8V b) := by
 rw [laidL_get n k i hi] at hb
 cases hb
 unfold laidC u8V
 rw [List.getElem?_map, List.getElem?_range (by omega), Option.map_some, if_pos (by omega), byte_of]
theorem made_zeros (n : Nat) : madeCells #[Value.int .u8 0] n = (List.replicate n (Value.int .u8 0)).toArray := by
 apply Array.ext
 · rw [size_madeCells]
   simp
 · intro j h1 h2
   simp [madeCells, Nat.mod_one]
theorem make_zeros (w : World) (t e : TypeId) (i : TypeInfo) (ht : P.underlying t = some (.slice e)) (hi : P.info? e = some i) (hz : i.zero = some (.int .u8 0)) (hs : i.size = 1) (hb : i.bytes = 1) (n : Nat) (hn : n ≤ 281474976710656) :
 (Instr.makeSlice t (.int .i64 (n : Int)) (.int .i64 (n : Int))).run P w = .ok (.slice (some ⟨w.heap.size, 0, none⟩) n n) (w.alloc (.cells (List.replicate n (Value.int .u8 0)).toArray e)) := by
 have := run_make w t e i (.int .u8 0) ht hi hz .i64 .i64 (n : Int) (n : Int) (by omega) (Int.le_refl _) (by rw [hb]; omega) (by omega)
 rw [hs] at this
 simpa [Value.cells, made_zeros] using this
theorem copy_text (w : World) (dT sT ty e : TypeId) (g N cap : Nat) (l : Bs) (t : TypeId) (hu : P.underlying dT = some (.slice e)) (hs : (P.info? e).map (·.size) = some 1)
 (hg : AtL w g t (List.replicate N (Value.int .u8 0))) (hl : l.length ≤ N) :
 (Builtin.copy_ #[dT, sT] ty #[.slice (some ⟨g, 0, none⟩) N cap, .string (str l)]).run P w = .ok (goInt l.length) (w.setRow g (l.map u8V ++ List.replicate (N - l.length) (Value.int .u8 0)).toArray) := by
 have := Lib.run_copy_row_string (P := P) w dT sT ty e g 0 N cap (str l) _ t hu hs hg (by rw [str_size]; exact hl) (by rw [str_size]; simpa using hl)
 rw [this, str_size]
 simp [byteCells_u8, List.drop_replicate]
theorem copy_behind (w : World) (dT sT ty e : TypeId) (g N o cap h k capS : Nat) (l m : Bs) (t : TypeId) (hu : P.underlying dT = some (.slice e)) (hs : (P.info? e).map (·.size) = some 1)
 (hg : AtL w g t (l.map u8V ++ List.replicate (N - l.length) (Value.int .u8 0))) (ho : o = l.length) (hk : m.length = k) (hN : N = l.length + k)
 (hc : ∀ j b, m[j]? = some b → w.cell? ⟨h, j, none⟩ = some (u8V b)) :
 (Builtin.copy_ #[dT, sT] ty #[.slice (some ⟨g, o, none⟩) k cap, .slice (some ⟨h, 0, none⟩) k capS]).run P w = .ok (goInt k) (w.setRow g ((l ++ m).map u8V).toArray) := by
 subst ho hN hk
 have := run_copy_row (P := P) w dT sT ty e g l.length m.length cap ⟨h, 0, none⟩ m.length capS _ t (m.map u8V) hu hs hg (by simp) (fun j v hj => by
  rw [List.getElem?_map] at hj
  obtain ⟨b, hb, rfl⟩ := Option.map_eq_some_iff.1 hj
  have hadd : (⟨h, 0, none⟩ : Addr).add j = ⟨h, j, none⟩ := by unfold Addr.add; split <;> simp_all
  rw [hadd]
  exact hc j b hb) (by simp) one_u8
 rw [this, List.length_map, show ∀ L : List Value, L.toArray.toList = L from fun _ => rfl, List.take_left' (List.length_map ..), List.drop_eq_nil_of_le (by simp)]
 simp
theorem cells_text (w : World) (src dst e : TypeId) (hs : P.underlying src = some (.slice e)) (he : P.underlying e = some (.int .u8)) (hd : P.underlying dst = some .string) (g n cap : Nat) (l : Bs) (hn : n = l.length)
 (hc : ∀ j b, l[j]? = some b → w.cell? ⟨g, j, none⟩ = some (u8V b)) : (convert src dst (.slice (some ⟨g, 0, none⟩) n cap)).run P w = .ok (.string (str l)) w := by
 subst hn
 refine run_convert_bytes_back (P := P) w src dst e ⟨g, 0, none⟩ cap l hs he hd fun j hj => ?_
 have hadd : (⟨g, 0, none⟩ : Addr).add j = ⟨g, j, none⟩ := by unfold Addr.add; split <;> simp_all
 rw [hadd]
 exact hc j _ (List.getElem?_eq_getElem hj)
theorem AtL.bytes {l : Bs} (h : AtL w g t (l.map u8V)) : ∀ j b, l[j]? = some b → w.cell? ⟨g, j, none⟩ = some (u8V b) := fun j b hb => h.get (by rw [List.getElem?_map, hb]; rfl)
theorem or_byte {n : Nat} (b : UInt8) (h : n < 72057594037927936) : bits .or .u64 ((n : Int) * 256) (b.toNat : Int) = ((n * 256 + b.toNat : Nat) : Int) := by
 have hb := b.toNat_lt
 rw [show (n : Int) * 256 = ((n * 256 : Nat) : Int) by omega, u64_or_nat _ _ (by omega) (by omega)]
 rw [show n * 256 = n <<< 8 by rw [Nat.shiftLeft_eq], Nat.shiftLeft_add_eq_or_of_lt hb]
end Go.Proofs.Ytpefdmkfmcjfnaa.Oct

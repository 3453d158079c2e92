/-
  Rows of bytes in memory: an array that is filled from its end, a slice that is made and copied into, bytes as a text. Nothing here speaks of a program.
-/
import Derived.Test.YtkfienjlmnbonaaMem
import Derived.Test.YtkfienjlmnbonaaOctMath
import Derived.Laws.Tables
import Derived.Laws.CopyRow
import Derived.Laws.IdiomStrings
import Derived.Laws.MakeOwn
import Derived.Laws.BitsAllLaws
import Derived.Lib.BufferWrite
namespace Go.Proofs.Ytkfienjlmnbonaa.Oct
open Go.RowKit Go.Proofs.Ytkfienjlmnbonaa.Mem
set_option linter.unusedVariables false
variable {P : Program}

/-- Block g holds just these cells. -/
def AtL (w : World) (g : Nat) (t : TypeId) (cs : List Value) : Prop := At w g t cs.toArray
variable {w v : World} {g : Nat} {t : TypeId} {cs : List Value}
theorem AtL.at (h : AtL w g t cs) : w.heap[g]? = some (.cells cs.toArray t (0, 0)) := h
theorem AtL.inside (h : AtL w g t cs) : g < w.heap.size := At.inside h
theorem AtL.cell (h : AtL w g t cs) (i : Nat) : w.cell? ⟨g, i, none⟩ = cs[i]? := (At.cell h i).trans (by simp)
theorem AtL.get (h : AtL w g t cs) {i : Nat} {x : Value} (hx : cs[i]? = some x) : w.cell? ⟨g, i, none⟩ = some x := (h.cell i).trans hx
theorem AtL.free (h : AtL w g t cs) (i : Nat) : w.frozen? ⟨g, i, none⟩ = false := At.free h i
theorem AtL.keep {B : Nat} (h : AtL w g t cs) (hb : Below B w v) (hg : g < B) : AtL v g t cs := At.keep h hb hg
theorem AtL.on (h : AtL w g t cs) (hb : Below w.heap.size w v) : AtL v g t cs := At.keep h hb h.inside
theorem AtL.alloc (h : AtL w g t cs) (o : Obj) : AtL (w.alloc o) g t cs := At.alloc h o
theorem AtL.new (w : World) (t : TypeId) (cs : List Value) : AtL (w.alloc (.cells cs.toArray t)) w.heap.size t cs := At.new w t _
theorem AtL.put (h : AtL w g t cs) (i : Nat) (x : Value) : AtL (w.setCell ⟨g, i, none⟩ x) g t (cs.set i x) := by
  have := At.put h i x
  simpa [AtL] using this
theorem AtL.far (h : AtL w g t cs) {b : Nat} (hb : g ≠ b) (i : Nat) (x : Value) : AtL (w.setCell ⟨b, i, none⟩ x) g t cs := At.far h hb i x
theorem AtL.row (h : AtL w g t cs) (vs : List Value) : AtL (w.setRow g vs.toArray) g t vs := setRow_heap w g _ _ t _ h
theorem AtL.rowFar (h : AtL w g t cs) {b : Nat} (hb : g ≠ b) (vs : Array Value) : AtL (w.setRow b vs) g t cs := (setRow_other w b g vs hb).trans h
theorem below_row {B : Nat} (hb : Below B w v) (hg : B ≤ g) (cs : Array Value) : Below B w (v.setRow g cs) :=
  ⟨hb.os, hb.tape, hb.output, by rw [setRow_size]; exact hb.size, fun k hk => (setRow_other v g k cs (by omega)).trans (hb.block k hk)⟩
theorem below_set {B : Nat} (hb : Below B w v) (hg : B ≤ g) (i : Nat) (x : Value) : Below B w (v.setCell ⟨g, i, none⟩ x) := hb.setCell hg x

def u8V (b : UInt8) : Value := .int .u8 (b.toNat : Int)
theorem one_u8 {l : Bs} : ∀ v ∈ l.map u8V, v.oneCell' = true := by
  intro v hv
  obtain ⟨x, -, rfl⟩ := List.mem_map.1 hv
  rfl
theorem byteCells_u8 (l : Bs) : Lib.byteCells l = l.map u8V := rfl

/-- A number's last j bytes, from the end of k cells on, in an array of eight. -/
def laidC (n k j : Nat) : List Value := (List.range 8).map fun i => Value.int .u8 (((if k - j ≤ i ∧ i < k then n / 2 ^ (8 * (k - 1 - i)) % 256 else 0) : Nat) : Int)
theorem laidC_none (n k : Nat) : laidC n k 0 = [.int .u8 0, .int .u8 0, .int .u8 0, .int .u8 0, .int .u8 0, .int .u8 0, .int .u8 0, .int .u8 0] := by
  unfold laidC
  have h : ∀ i, ¬ (k - 0 ≤ i ∧ i < k) := fun i => by omega
  simp only [h, if_false]
  rfl
theorem laidC_set {n k j : Nat} (hj : j < k) (hk : k ≤ 8) : (laidC n k j).set (k - 1 - j) (.int .u8 ((n / 2 ^ (8 * j) % 256 : Nat) : Int)) = laidC n k (j + 1) := by
  unfold laidC
  apply List.ext_getElem?
  intro i
  rw [List.getElem?_set]
  by_cases hi : i < 8
  · by_cases he : k - 1 - j = i
    · have h1 : k - (j + 1) ≤ i ∧ i < k := by omega
      have h2 : k - 1 - i = j := by omega
      have h3 : k - 1 - j < 8 := by omega
      simp only [List.getElem?_map, List.getElem?_range hi, Option.map_some, List.length_map, List.length_range]
      rw [if_pos he, if_pos h3, if_pos h1, h2]
    · have h1 : (k - j ≤ i ∧ i < k) ↔ (k - (j + 1) ≤ i ∧ i < k) := by omega
      rw [if_neg he, List.getElem?_map, List.getElem?_map, List.getElem?_range hi, Option.map_some, Option.map_some]
      simp only [h1]
  · have h1 : ∀ m, ((List.range 8).map fun i => Value.int .u8 (((if k - m ≤ i ∧ i < k then n / 2 ^ (8 * (k - 1 - i)) % 256 else 0) : Nat) : Int))[i]? = none := fun m => by
      rw [List.getElem?_eq_none]
      simpa using hi
    rw [h1, h1]
    simp
    omega
theorem laidC_get {n k i : Nat} (hi : i < k) (hk : k ≤ 8) {b : UInt8} (hb : (laidL n k)[i]? = some b) : (laidC n k k)[i]? = some (u8V b) := by
  rw [laidL_get n k i hi] at hb
  cases hb
  unfold laidC u8V
  rw [List.getElem?_map, List.getElem?_range (by omega), Option.map_some, if_pos (by omega), byte_of]

/-- A slice of n zeros, made. -/
theorem made_zeros (n : Nat) : madeCells #[Value.int .u8 0] n = (List.replicate n (Value.int .u8 0)).toArray := by
  apply Array.ext
  · rw [size_madeCells]
    simp
  · intro j h1 h2
    simp [madeCells, Nat.mod_one]
theorem make_zeros (w : World) (t e : TypeId) (i : TypeInfo) (ht : P.underlying t = some (.slice e)) (hi : P.info? e = some i) (hz : i.zero = some (.int .u8 0)) (hs : i.size = 1) (hb : i.bytes = 1) (n : Nat) (hn : n ≤ 281474976710656) :
    (Instr.makeSlice t (.int .i64 (n : Int)) (.int .i64 (n : Int))).run P w = .ok (.slice (some ⟨w.heap.size, 0, none⟩) n n) (w.alloc (.cells (List.replicate n (Value.int .u8 0)).toArray e)) := by
  have := run_make w t e i (.int .u8 0) ht hi hz .i64 .i64 (n : Int) (n : Int) (by omega) (Int.le_refl _) (by rw [hb]; omega) (by omega)
  rw [hs] at this
  simpa [Value.cells, made_zeros] using this
/-- A text is copied to the front of what was made. -/
theorem copy_text (w : World) (dT sT ty e : TypeId) (g N cap : Nat) (l : Bs) (t : TypeId) (hu : P.underlying dT = some (.slice e)) (hs : (P.info? e).map (·.size) = some 1)
    (hg : AtL w g t (List.replicate N (Value.int .u8 0))) (hl : l.length ≤ N) :
    (Builtin.copy_ #[dT, sT] ty #[.slice (some ⟨g, 0, none⟩) N cap, .string (str l)]).run P w = .ok (goInt l.length) (w.setRow g (l.map u8V ++ List.replicate (N - l.length) (Value.int .u8 0)).toArray) := by
  have := Lib.run_copy_row_string (P := P) w dT sT ty e g 0 N cap (str l) _ t hu hs hg (by rw [str_size]; exact hl) (by rw [str_size]; simpa using hl)
  rw [this, str_size]
  simp [byteCells_u8, List.drop_replicate]
/-- What stands in cells is copied behind it. -/
theorem copy_behind (w : World) (dT sT ty e : TypeId) (g N o cap h k capS : Nat) (l m : Bs) (t : TypeId) (hu : P.underlying dT = some (.slice e)) (hs : (P.info? e).map (·.size) = some 1)
    (hg : AtL w g t (l.map u8V ++ List.replicate (N - l.length) (Value.int .u8 0))) (ho : o = l.length) (hk : m.length = k) (hN : N = l.length + k)
    (hc : ∀ j b, m[j]? = some b → w.cell? ⟨h, j, none⟩ = some (u8V b)) :
    (Builtin.copy_ #[dT, sT] ty #[.slice (some ⟨g, o, none⟩) k cap, .slice (some ⟨h, 0, none⟩) k capS]).run P w = .ok (goInt k) (w.setRow g ((l ++ m).map u8V).toArray) := by
  subst ho hN hk
  have := run_copy_row (P := P) w dT sT ty e g l.length m.length cap ⟨h, 0, none⟩ m.length capS _ t (m.map u8V) hu hs hg (by simp) (fun j v hj => by
    rw [List.getElem?_map] at hj
    obtain ⟨b, hb, rfl⟩ := Option.map_eq_some_iff.1 hj
    have hadd : (⟨h, 0, none⟩ : Addr).add j = ⟨h, j, none⟩ := by unfold Addr.add; split <;> simp_all
    rw [hadd]
    exact hc j b hb) (by simp) one_u8
  rw [this, List.length_map, show ∀ L : List Value, L.toArray.toList = L from fun _ => rfl, List.take_left' (List.length_map ..), List.drop_eq_nil_of_le (by simp)]
  simp
/-- Cells as a text. -/
theorem cells_text (w : World) (src dst e : TypeId) (hs : P.underlying src = some (.slice e)) (he : P.underlying e = some (.int .u8)) (hd : P.underlying dst = some .string) (g n cap : Nat) (l : Bs) (hn : n = l.length)
    (hc : ∀ j b, l[j]? = some b → w.cell? ⟨g, j, none⟩ = some (u8V b)) : (convert src dst (.slice (some ⟨g, 0, none⟩) n cap)).run P w = .ok (.string (str l)) w := by
  subst hn
  refine run_convert_bytes_back (P := P) w src dst e ⟨g, 0, none⟩ cap l hs he hd fun j hj => ?_
  have hadd : (⟨g, 0, none⟩ : Addr).add j = ⟨g, j, none⟩ := by unfold Addr.add; split <;> simp_all
  rw [hadd]
  exact hc j _ (List.getElem?_eq_getElem hj)
theorem AtL.bytes {l : Bs} (h : AtL w g t (l.map u8V)) : ∀ j b, l[j]? = some b → w.cell? ⟨g, j, none⟩ = some (u8V b) := fun j b hb => h.get (by rw [List.getElem?_map, hb]; rfl)

/-- A number one byte longer. -/
theorem or_byte {n : Nat} (b : UInt8) (h : n < 72057594037927936) : bits .or .u64 ((n : Int) * 256) (b.toNat : Int) = ((n * 256 + b.toNat : Nat) : Int) := by
  have hb := b.toNat_lt
  rw [show (n : Int) * 256 = ((n * 256 : Nat) : Int) by omega, u64_or_nat _ _ (by omega) (by omega)]
  rw [show n * 256 = n <<< 8 by rw [Nat.shiftLeft_eq], Nat.shiftLeft_add_eq_or_of_lt hb]

end Go.Proofs.Ytkfienjlmnbonaa.Oct

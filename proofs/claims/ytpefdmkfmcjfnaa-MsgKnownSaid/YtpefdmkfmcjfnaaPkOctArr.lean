import Derived.Test.YtpefdmkfmcjfnaaPkMem
import Derived.Lib.SlBuf
import Derived.Lib.BufferWrite

namespace Go.Proofs.Ytpefdmkfmcjfnaa.Oct
open Go.RowKit Go.Proofs.Ytpefdmkfmcjfnaa.Mem
set_option linter.unusedVariables false
variable {P : Program}
def AtL (w : World) (g : Nat) (t : TypeId) (cs : List Value) : Prop := At w g t cs.toArray
variable {w v : World} {g : Nat} {t : TypeId} {cs : List Value}
theorem AtL.at (h : AtL w g t cs) : w.heap[g]? = some (.cells cs.toArray t (0, 0)) := h
theorem AtL.inside (h : AtL w g t cs) : g < w.heap.size := At.inside h
theorem AtL.cell (h : AtL w g t cs) (i : Nat) : w.cell? ⟨g, i, none⟩ = cs[i]? := (At.cell h i).trans (by simp)
theorem AtL.get (h : AtL w g t cs) {i : Nat} {x : Value} (hx : cs[i]? = some x) : w.cell? ⟨g, i, none⟩ = some x := (h.cell i).trans hx
theorem AtL.free (h : AtL w g t cs) (i : Nat) : w.frozen? ⟨g, i, none⟩ = false := At.free h i
theorem AtL.keep {B : Nat} (h : AtL w g t cs) (hb : Below B w v) (hg : g < B) : AtL v g t cs := At.keep h hb hg
theorem AtL.on (h : AtL w g t cs) (hb : Below w.heap.size w v) : AtL v g t cs := At.keep h hb h.inside
theorem AtL.alloc (h : AtL w g t cs) (o : Obj) : AtL (w.alloc o) g t cs := At.alloc h o
theorem AtL.new (w : World) (t : TypeId) (cs : List Value) : AtL (w.alloc (.cells cs.toArray t)) w.heap.size t cs := At.new w t _
theorem AtL.put (h : AtL w g t cs) (i : Nat) (x : Value) : AtL (w.setCell ⟨g, i, none⟩ x) g t (cs.set i x) := by
 have := At.put h i x
 simpa [AtL] using this
theorem AtL.far (h : AtL w g t cs) {b : Nat} (hb : g ≠ b) (i : Nat) (x : Value) : AtL (w.setCell ⟨b, i, none⟩ x) g t cs := At.far h hb i x
theorem AtL.row (h : AtL w g t cs) (vs : List Value) : AtL (w.setRow g vs.toArray) g t vs := setRow_heap w g _ _ t _ h
theorem AtL.rowFar (h : AtL w g t cs) {b : Nat} (hb : g ≠ b) (vs : Array Value) : AtL (w.setRow b vs) g t cs := (setRow_other w b g vs hb).trans h
theorem below_row {B : Nat} (hb : Below B w v) (hg : B ≤ g) (cs : Array Value) : Below B w (v.setRow g cs) :=
 ⟨hb.os, hb.tape, hb.output, by rw [setRow_size]; exact hb.size, fun k hk => (setRow_other v g k cs (by omega)).trans (hb.block k hk)⟩
theorem below_set {B : Nat} (hb : Below B w v) (hg : B ≤ g) (i : Nat) (x : Value) : Below B w (v.setCell ⟨g, i, none⟩ x) := hb.setCell hg x
def u8V (b : UInt8) : Value := .int .u8 (b.toNat : Int)
theorem one_u8 {l : Bs} : ∀ v ∈ l.map u8V, v.oneCell' = true := by
 intro v hv
 obtain ⟨x, -, rfl⟩ := List.mem_map.1 hv
 rfl
theorem byteCells_u8 (l : Bs) : Lib.byteCells l = l.map u8V := rfl
def laidC (n k j : Nat) : List Value := (List.range 8).map fun i => Value.int .u8 (((if k - j ≤ i ∧ i < k then n / 2 ^ (8 * (k - 1 - i)) % 256 else 0) : Nat) : Int)
theorem laidC_none (n k : Nat) : laidC n k 0 = [.int .u8 0, .int .u8 0, .int .u8 0, .int .u8 0, .int .u8 0, .int .u8 0, .int .u8 0, .int .u8 0] := by
 unfold laidC
 have h : ∀ i, ¬ (k - 0 ≤ i ∧ i < k) := fun i => by omega
 simp only [h, if_false]
 rfl
theorem laidC_set {n k j : Nat} (hj : j < k) (hk : k ≤ 8) : (laidC n k j).set (k - 1 - j) (.int .u8 ((n / 2 ^ (8 * j) % 256 : Nat) : Int)) = laidC n k (j + 1) := by
 unfold laidC
 apply List.ext_getElem?
 intro i
 rw [List.getElem?_set]
 by_cases hi : i < 8
 · by_cases he : k - 1 - j = i
   · have h1 : k - (j + 1) ≤ i ∧ i < k := by omega
     have h2 : k - 1 - i = j := by omega
     have h3 : k - 1 - j < 8 := by omega
     simp only [List.getElem?_map, List.getElem?_range hi, Option.map_some, List.length_map, List.length_range]
     rw [if_pos he, if_pos h3, if_pos h1, h2]
   · have h1 : (k - j ≤ i ∧ i < k) ↔ (k - (j + 1) ≤ i ∧ i < k) := by omega
     rw [if_neg he, List.getElem?_map, List.getElem?_map, List.getElem?_range hi, Option.map_some, Option.map_some]
     simp only [h1]
 · have h1 : ∀ m, ((List.range 8).map fun i => Value.int .u8 (((if k - m ≤ i ∧ i < k then n / 2 ^ (8 * (k - 1 - i)) % 256 else 0) : Nat) : Int))[i]? = none := fun m => by
    rw [List.getElem?_eq_none]
    simpa using hi
   rw [h1, h1]
   simp
   omega
theorem laidC_get {n k i : Nat} (hi : i < k) (hk : k ≤ 8) {b : UInt8} (hb : (laidL n k)[i]? = some b) : (laidC n k k)[i]? = some (u8V b) := by
 rw [laidL_get n k i hi] at hb
 cases hb
 unfold laidC u8V
 rw [List.getElem?_map, List.getElem?_range (by omega), Option.map_some, if_pos (by omega), byte_of]
theorem made_zeros (n : Nat) : madeCells #[Value.int .u8 0] n = (List.replicate n (Value.int .u8 0)).toArray := by
 apply Array.ext
 · rw [size_madeCells]
   simp
 · intro j h1 h2
   simp [madeCells, Nat.mod_one]
theorem make_zeros (w : World) (t e : TypeId) (i : TypeInfo) (ht : P.underlying t = some (.slice e)) (hi : P.info? e = some i) (hz : i.zero = some (.int .u8 0)) (hs : i.size = 1) (hb : i.bytes = 1) (n : Nat) (hn : n ≤ 281474976710656) :
 (Instr.makeSlice t (.int .i64 (n : Int)) (.int .i64 (n : Int))).run P w = .ok (.slice (some ⟨w.heap.size, 0, none⟩) n n) (w.alloc (.cells (List.replicate n (Value.int .u8 0)).toArray e)) := by
 have := run_make w t e i (.int .u8 0) ht hi hz .i64 .i64 (n : Int) (n : Int) (by omega) (Int.le_refl _) (by rw [hb]; omega) (by omega)
 rw [hs] at this
 simpa [Value.cells, made_zeros] using this
theorem copy_text (w : World) (dT sT ty e : TypeId) (g N cap : Nat) (l : Bs) (t : TypeId) (hu : P.underlying dT = some (.slice e)) (hs : (P.info? e).map (·.size) = some 1)
 (hg : AtL w g t (List.replicate N (Value.int .u8 0))) (hl : l.length ≤ N) :
 (Builtin.copy_ #[dT, sT] ty #[.slice (some ⟨g, 0, none⟩) N cap, .string (str l)]).run P w = .ok (goInt l.length) (w.setRow g (l.map u8V ++ List.replicate (N - l.length) (Value.int .u8 0)).toArray) := by
 have := Lib.run_copy_row_string (P := P) w dT sT ty e g 0 N cap (str l) _ t hu hs hg (by rw [str_size]; exact hl) (by rw [str_size]; simpa using hl)
 rw [this, str_size]
 simp [byteCells_u8, List.drop_replicate]
theorem copy_behind (w : World) (dT sT ty e : TypeId) (g N o cap h k capS : Nat) (l m : Bs) (t : TypeId) (hu : P.underlying dT = some (.slice e)) (hs : (P.info? e).map (·.size) = some 1)
 (hg : AtL w g t (l.map u8V ++ List.replicate (N - l.length) (Value.int .u8 0))) (ho : o = l.length) (hk : m.length = k) (hN : N = l.length + k)
 (hc : ∀ j b, m[j]? = some b → w.cell? ⟨h, j, none⟩ = some (u8V b)) :
 (Builtin.copy_ #[dT, sT] ty #[.slice (some ⟨g, o, none⟩) k cap, .slice (some ⟨h, 0, none⟩) k capS]).run P w = .ok (goInt k) (w.setRow g ((l ++ m).map u8V).toArray) := by
 subst ho hN hk
 have := run_copy_row (P := P) w dT sT ty e g l.length m.length cap ⟨h, 0, none⟩ m.length capS _ t (m.map u8V) hu hs hg (by simp) (fun j v hj => by
  rw [List.getElem?_map] at hj
  obtain ⟨b, hb, rfl⟩ := Option.map_eq_some_iff.1 hj
  have hadd : (⟨h, 0, none⟩ : Addr).add j = ⟨h, j, none⟩ := by unfold Addr.add; split <;> simp_all
  rw [hadd]
  exact hc j b hb) (by simp) one_u8
 rw [this, List.length_map, show ∀ L : List Value, L.toArray.toList = L from fun _ => rfl, List.take_left' (List.length_map ..), List.drop_eq_nil_of_le (by simp)]
 simp
theorem cells_text (w : World) (src dst e : TypeId) (hs : P.underlying src = some (.slice e)) (he : P.underlying e = some (.int .u8)) (hd : P.underlying dst = some .string) (g n cap : Nat) (l : Bs) (hn : n = l.length)
 (hc : ∀ j b, l[j]? = some b → w.cell? ⟨g, j, none⟩ = some (u8V b)) : (convert src dst (.slice (some ⟨g, 0, none⟩) n cap)).run P w = .ok (.string (str l)) w := by
 subst hn
 refine run_convert_bytes_back (P := P) w src dst e ⟨g, 0, none⟩ cap l hs he hd fun j hj => ?_
 have hadd : (⟨g, 0, none⟩ : Addr).add j = ⟨g, j, none⟩ := by unfold Addr.add; split <;> simp_all
 rw [hadd]
 exact hc j _ (List.getElem?_eq_getElem hj)
theorem AtL.bytes {l : Bs} (h : AtL w g t (l.map u8V)) : ∀ j b, l[j]? = some b → w.cell? ⟨g, j, none⟩ = some (u8V b) := fun j b hb => h.get (by rw [List.getElem?_map, hb]; rfl)
theorem or_byte {n : Nat} (b : UInt8) (h : n < 72057594037927936) : bits .or .u64 ((n : Int) * 256) (b.toNat : Int) = ((n * 256 + b.toNat : Nat) : Int) := by
 have hb := b.toNat_lt
 rw [show (n : Int) * 256 = ((n * 256 : Nat) : Int) by omega, u64_or_nat _ _ (by omega) (by omega)]
 rw [show n * 256 = n <<< 8 by rw [Nat.shiftLeft_eq], Nat.shiftLeft_add_eq_or_of_lt hb]
end Go.Proofs.Ytpefdmkfmcjfnaa.Oct
namespace Go.Proofs.Ytpefdmkfmcjfnaa.Oct
open Go.RowKit Go.Sort Go.Proofs.Ytpefdmkfmcjfnaa.Mem Go.Proofs.Ytpefdmkfmcjfnaa.Route
set_option linter.unusedVariables false
theorem info_u8S : (Try.prog.info? 5).map (fun i => (i.zero, i.size, i.bytes)) = some (some (.int .u8 0), 1, 1) := by kernel_rfl
def intOf : Value → Int
 | .int _ n => n
 | _ => 0
theorem isWidth_any (k : Int) (w : World) : Calls Try.prog 91 #[.int .i64 k] w fun e w' => e = .returned (.bool (isW k)) ∧ w' = w := by
 have h := Lib.hid (show isW k = (decide (1 ≤ k) && decide (k ≤ 8)) by simp [isW])
 go_enter Try.func91, Try.ntmps91
 by_cases h1 : 1 ≤ k
 · have t1 : decide (1 ≤ k) = true := decide_eq_true h1
   go_wp2
   go_ret
   exact ⟨ret_bool (by rw [h.out, t1]; rfl), rfl⟩
 · have t1 : decide (1 ≤ k) = false := decide_eq_false h1
   go_wp2
   go_ret
   exact ⟨ret_bool (by rw [h.out, t1]; rfl), rfl⟩
set_option maxRecDepth 100000 in
set_option maxHeartbeats 4000000 in
theorem laid_any (n k : Nat) (hn : n < 18446744073709551616) (h1 : 1 ≤ k) (h8 : k ≤ 8) (w : World) :
 Calls Try.prog 93 #[.int .u64 (n : Int), .int .i64 (k : Int)] w fun e w' => e = .returned (.slice (some ⟨w.heap.size, 0, none⟩) k k) ∧ (∀ j b, (laidL n k)[j]? = some b → w'.cell? ⟨w.heap.size, j, none⟩ = some (u8V b)) ∧ Below w.heap.size w w' := by
 have hA0 := AtL.new w 161 (laidC n k 0)
 rw [laidC_none] at hA0
 have hB0 : Below w.heap.size w (w.alloc (.cells #[.int .u8 0, .int .u8 0, .int .u8 0, .int .u8 0, .int .u8 0, .int .u8 0, .int .u8 0, .int .u8 0] 161)) := (Below.refl _ _).alloc (Nat.le_refl _) _
 have h8' : (k : Int) ≤ 8 := by omega
 go_enter Try.func93, Try.ntmps93
 go_wp2_with fail
 go_loopw [8] (fun c wr => ∃ j : Nat, c = .int .i64 (j : Int) ∧ j ≤ k ∧ Hid (AtL wr w.heap.size 161 (laidC n k j)) ∧ Hid (Below w.heap.size w wr))
  (fun c _ => k - (intOf c).toNat)
 case atStart => exact ⟨0, rfl, Nat.zero_le _, Lib.hid (by rw [laidC_none]; exact hA0), Lib.hid hB0⟩
 case round =>
  clear hA0 hB0
  obtain ⟨j, rfl, hjk, hA, hB⟩ := hrel
  by_cases hlt : j < k
  · obtain ⟨m, hm⟩ : ∃ m, k - 1 - j = m := ⟨_, rfl⟩
    obtain ⟨q, hq⟩ : ∃ q, 8 * j = q := ⟨_, rfl⟩
    have e1 : (k : Int) - 1 - (j : Int) = (m : Int) := by omega
    have e2 : (8 : Int) * (j : Int) = (q : Int) := by omega
    have hm8 : m < 8 := by omega
    have hq64 : q < 64 := by omega
    have hlt' : (j : Int) < (k : Int) := by omega
    have hset := laidC_set (n := n) hlt h8
    rw [hm, hq] at hset
    have hl8 : (laidC n k j).length = 8 := by simp [laidC]
    obtain ⟨x, hx⟩ : ∃ x, (laidC n k j)[m]? = some x := ⟨_, List.getElem?_eq_getElem (by omega)⟩
    have hc := hA.out.get hx
    have hf := hA.out.free m
    have hA' := Lib.hid (show AtL (wr.setCell ⟨w.heap.size, m, none⟩ (.int .u8 ((n / 2 ^ q % 256 : Nat) : Int))) w.heap.size 161 (laidC n k (j + 1)) by rw [← hset]; exact hA.out.put m _)
    have hB' := Lib.hid (below_set hB.out (Nat.le_refl _) m (.int .u8 ((n / 2 ^ q % 256 : Nat) : Int)))
    have hcast : ((n / 2 ^ q % 256 : Nat) : Int) = (n : Int) / 2 ^ q % 256 := by simp
    rw [hcast] at hA' hB'
    clear hset hx hl8 hA hB hm hq hcast
    go_wp2_with fail
    go_roundw
    case rel => exact ⟨j + 1, by go_num, by omega, hA', hB'⟩
    case measure => simp [intOf]; omega
  · obtain rfl : j = k := by omega
    have hget := fun i b (hb : (laidL n j)[i]? = some b) => hA.out.get (laidC_get (by have := (List.getElem?_eq_some_iff.1 hb).1; rwa [laidL_length] at this) h8 hb)
    have hgetH := Lib.hid hget
    clear hget hA hlt hjk
    go_wp2
    go_ret
    exact ⟨rfl, hgetH.out, hB.out⟩
set_option maxRecDepth 100000 in
set_option maxHeartbeats 4000000 in
theorem join_any (s m : Bs) (k h cap : Nat) (hk : m.length = k) (hk1 : 1 ≤ k) (hs : s.length + k ≤ 281474976710656) (w : World) (hh : h < w.heap.size) (hc : ∀ j b, m[j]? = some b → w.cell? ⟨h, j, none⟩ = some (u8V b)) :
 Calls Try.prog 92 #[.string (str s), .slice (some ⟨h, 0, none⟩) k cap] w fun e w' => e = .returned (.string (str (s ++ m))) ∧ Below w.heap.size w w' := by
 obtain ⟨i0, hi, hz0, hz1, hz2⟩ := info_parts info_u8S
 have hsz : (Try.prog.info? 5).map (·.size) = some 1 := by rw [hi, ← hz1]; rfl
 obtain ⟨N, hN⟩ : ∃ N, s.length + k = N := ⟨_, rfl⟩
 have hmk := make_zeros (P := Try.prog) w 26 5 i0 Try.underlying26 hi hz0 hz1 hz2 N (by omega)
 have hA1 := AtL.new w 5 (List.replicate N (Value.int .u8 0))
 have hB1 : Below w.heap.size w (w.alloc (.cells (List.replicate N (Value.int .u8 0)).toArray 5)) := (Below.refl _ _).alloc (Nat.le_refl _) _
 generalize w.alloc (.cells (List.replicate N (Value.int .u8 0)).toArray 5) = w1 at hmk hA1 hB1
 have hc1 := copy_text (P := Try.prog) w1 26 9 3 5 w.heap.size N N s 5 Try.underlying26 hsz hA1 (by omega)
 have hA2 := hA1.row (s.map u8V ++ List.replicate (N - s.length) (Value.int .u8 0))
 have hB2 := below_row hB1 (Nat.le_refl _) (s.map u8V ++ List.replicate (N - s.length) (Value.int .u8 0)).toArray
 generalize w1.setRow w.heap.size (s.map u8V ++ List.replicate (N - s.length) (Value.int .u8 0)).toArray = w2 at hc1 hA2 hB2
 have hc2 := copy_behind (P := Try.prog) w2 26 26 3 5 w.heap.size N s.length (N - s.length) h k cap s m 5 Try.underlying26 hsz hA2 rfl hk (by omega) (fun j b hb => (hB2.cell (p := ⟨h, j, none⟩) hh).trans (hc j b hb))
 have hA3 := hA2.row ((s ++ m).map u8V)
 have hB3 := below_row hB2 (Nat.le_refl _) ((s ++ m).map u8V).toArray
 generalize w2.setRow w.heap.size ((s ++ m).map u8V).toArray = w3 at hc2 hA3 hB3
 have hcv := cells_text (P := Try.prog) w3 26 9 5 Try.underlying26 Try.underlying5 Try.underlying9 w.heap.size N N (s ++ m) (by rw [List.length_append]; omega) hA3.bytes
 have e1 : (s.length : Int) + (k : Int) = (N : Int) := by omega
 have hNb : (N : Int) ≤ 281474976710656 := by omega
 have hsN : (s.length : Int) ≤ (N : Int) := by omega
 have e2 : N - s.length = k := by omega
 have hne : ¬ N = s.length := by omega
 rw [e2] at hc2
 have hB3' := Lib.hid hB3
 clear hA1 hA2 hA3 hB1 hB2 hB3 hN hs hc hi hz0 hz1 hz2 hsz hk
 go_enter Try.func92, Try.ntmps92
 go_wp2_with (at_builtin; first | (refine Lib.wpList_copy_run _ rfl _ _ _ _ rfl _ _ rfl rfl hc1 ?_) | (refine Lib.wpList_copy_run _ rfl _ _ _ _ rfl _ _ rfl rfl hc2 ?_))
 go_ret
 exact ⟨rfl, hB3'.out⟩
attribute [local go_sem] str_append
theorem ret_si {a b : Bs} {c d : Int} (h : a = b) (h2 : c = d) : Ending.returned (.tuple #[.string (str a), .int .i64 c]) = .returned (.tuple #[.string (str b), .int .i64 d]) := by rw [h, h2]
set_option maxRecDepth 100000 in
set_option maxHeartbeats 4000000 in
theorem Put_any (s : Bs) (n : Nat) (k : Int) (hn : n < 18446744073709551616) (hs : s.length ≤ 281474976710000) (w : World) :
 Calls Try.prog 90 #[.string (str s), .int .u64 (n : Int), .int .i64 k] w fun e w' => e = .returned (.tuple #[.string (str (putB s n k)), .int .i64 (putE n k)]) ∧ Below w.heap.size w w' := by
 have hwd := isWidth_any k w
 cases hw : isW k
 · rw [hw] at hwd
   have hE := Lib.hid (show putE n k = 2 by simp [putE, hw])
   have hB := Lib.hid (show putB s n k = [] by simp [putB, hw])
   clear hw
   go_enter Try.func90, Try.ntmps90
   go_wp2_with fail
   refine hwd.mono ?_
   rintro e w' ⟨rfl, rfl⟩
   go_wp2
   go_ret2
   exact ⟨ret_si hB.out.symm hE.out.symm, Below.refl _ _⟩
 · rw [hw] at hwd
   obtain ⟨K, rfl⟩ : ∃ K : Nat, k = K := ⟨k.toNat, by simp [isW] at hw; omega⟩
   have hK : 1 ≤ K ∧ K ≤ 8 := by simp [isW] at hw; omega
   obtain ⟨q, hq⟩ : ∃ q, 8 * K = q := ⟨_, rfl⟩
   have e2 : (8 : Int) * (K : Int) = (q : Int) := by omega
   have hq64 : q ≤ 64 := by omega
   have hmin : min q 64 = q := by omega
   by_cases hlt : n < 2 ^ q
   · have hz : (n : Int) / 2 ^ q = 0 := by
      have : ((n / 2 ^ q : Nat) : Int) = 0 := by rw [Nat.div_eq_of_lt hlt]; rfl
      simpa using this
     have hE := Lib.hid (show putE n K = 0 by simp [putE, hw, hq, hlt])
     have hB := Lib.hid (show putB s n K = s ++ laidL n K by simp [putB, hw, hq, hlt])
     have hla := fun W => laid_any n K hn hK.1 hK.2 W
     have hk1 := hK.1
     have hll := laidL_length n K
     clear hw hlt hq hK
     go_enter Try.func90, Try.ntmps90
     go_wp2_with fail
     refine hwd.mono ?_
     rintro e w' ⟨rfl, rfl⟩
     go_wp2_with fail
     refine (hla _).mono ?_
     rintro e w1 ⟨rfl, hc, hb1⟩
     have hlen : 0 < (laidL n K).length := by omega
     have hh : w'.heap.size < w1.heap.size := by
      have := hc 0 _ (List.getElem?_eq_getElem hlen)
      rcases Nat.lt_or_ge w'.heap.size w1.heap.size with h | h
      · exact h
      · simp [World.cell?, Array.getElem?_eq_none h] at this
     have hj := join_any s (laidL n K) K w'.heap.size K hll hk1 (by omega) w1 hh hc
     clear hc hlen
     go_wp2_with fail
     refine hj.mono ?_
     rintro e w2 ⟨rfl, hb2⟩
     go_wp2
     go_ret2
     exact ⟨ret_si hB.out.symm hE.out.symm, hb1.trans (hb2.mono hb1.size)⟩
   · have hz : ¬ (n : Int) / 2 ^ q = 0 := by
      intro h0
      have h1 : ((n / 2 ^ q : Nat) : Int) = 0 := by simpa using h0
      have h2 : n / 2 ^ q = 0 := by omega
      rw [Nat.div_eq_zero_iff] at h2
      rcases h2 with h2 | h2
      · have := Nat.pow_pos (n := q) (show 0 < 2 by decide); omega
      · exact hlt h2
     have hE := Lib.hid (show putE n K = 3 by simp [putE, hw, hq, hlt])
     have hB := Lib.hid (show putB s n K = [] by simp [putB, hw, hq, hlt])
     clear hw hlt hq hK
     go_enter Try.func90, Try.ntmps90
     go_wp2_with fail
     refine hwd.mono ?_
     rintro e w' ⟨rfl, rfl⟩
     go_wp2
     go_ret2
     exact ⟨ret_si hB.out.symm hE.out.symm, Below.refl _ _⟩
end Go.Proofs.Ytpefdmkfmcjfnaa.Oct

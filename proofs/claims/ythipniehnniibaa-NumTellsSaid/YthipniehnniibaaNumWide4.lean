/-
  Contracts of the answer's own wide numbers (package consignref01): what is multiplied, turned round, and whether it fits.
-/
import Derived.Test.YthipniehnniibaaNumWide2
namespace Go.Proofs.Ythipniehnniibaa.Num
open Go.RowKit Go.Proofs.Ythipniehnniibaa.Mem
set_option linter.unusedVariables false

theorem res_Neg (tmps : Array Value) (V : World) (g : Nat) {s : Bool} {a b c d : Int} (hp : tmps[2]? = some (.pointer (some ⟨g, 0, none⟩))) (h : At V g 29 #[.bool s, .int .u64 a, .int .u64 b, .int .u64 c, .int .u64 d]) :
    (results Try.f13 tmps).run Try.prog V = .ok (wide s a b c d) V := by
  have c0 := h.cell 0
  have c1 := h.cell 1
  have c2 := h.cell 2
  have c3 := h.cell 3
  have c4 := h.cell 4
  simp only [List.getElem?_toArray, List.getElem?_cons_zero, List.getElem?_cons_succ] at c0 c1 c2 c3 c4
  simp [results, Try.results13, go_sem, wide, hp, c0, c1, c2, c3, c4]

set_option maxRecDepth 100000 in
set_option maxHeartbeats 1000000 in
theorem Neg_any (s : Bool) (a b c d : Int) (w : World) :
    Calls Try.prog 13 #[wide s a b c d] w fun e w' => e = .returned (wide (!s) a b c d) ∧ Below w.heap.size w w' := by
  unfold wide
  go_enter Try.func13, Try.ntmps13
  go_wp2
  refine bodyPost_ret (res_Neg _ _ _ rfl (At.new_ _ _ _ (by simp))) rfl ⟨rfl, ?_⟩
  repeat (first | exact Below.refl _ _ | refine Below.alloc ?_ (by simp) _)

set_option maxRecDepth 100000 in
set_option maxHeartbeats 1000000 in
theorem Fits_big (s : Bool) (a b c d : Int) (w : World) (hc : 0 < c) (hc1 : c < 4294967296) :
    Calls Try.prog 10 #[wide s a b c d] w fun e w' => e = .returned (.tuple #[.int .i64 0, .bool false]) ∧ Below w.heap.size w w' := by
  unfold wide
  go_enter Try.func10, Try.ntmps10
  go_wp2
  go_ret2
  exact ⟨rfl, (Below.refl _ _).alloc (Nat.le_refl _) _⟩

set_option maxRecDepth 100000 in
set_option maxHeartbeats 1000000 in
theorem Fits_big2 (s : Bool) (a b d : Int) (w : World) (hc : 0 < d) (hc1 : d < 4294967296) :
    Calls Try.prog 10 #[wide s a b 0 d] w fun e w' => e = .returned (.tuple #[.int .i64 0, .bool false]) ∧ Below w.heap.size w w' := by
  unfold wide
  go_enter Try.func10, Try.ntmps10
  go_wp2
  go_ret2
  exact ⟨rfl, (Below.refl _ _).alloc (Nat.le_refl _) _⟩

set_option maxRecDepth 100000 in
set_option maxHeartbeats 1000000 in
theorem Fits_pos (a b : Int) (w : World) (ha : 0 ≤ a) (ha1 : a < 4294967296) (hb : 0 ≤ b) (hb1 : b < 2147483648) :
    Calls Try.prog 10 #[wide false a b 0 0] w fun e w' => e = .returned (.tuple #[.int .i64 (a + 4294967296 * b), .bool true]) ∧ Below w.heap.size w w' := by
  unfold wide
  go_enter Try.func10, Try.ntmps10
  go_wp2
  go_ret2
  exact ⟨ret_ib (by omega) rfl, (Below.refl _ _).alloc (Nat.le_refl _) _⟩

set_option maxRecDepth 100000 in
set_option maxHeartbeats 1000000 in
theorem Fits_pos_no (a b : Int) (w : World) (ha : 0 ≤ a) (ha1 : a < 4294967296) (hb : 2147483648 ≤ b) (hb1 : b < 4294967296) :
    Calls Try.prog 10 #[wide false a b 0 0] w fun e w' => e = .returned (.tuple #[.int .i64 0, .bool false]) ∧ Below w.heap.size w w' := by
  have t1 : (a + b * 4294967296 == 0) = false := by rw [beq_eq_false_iff_ne]; omega
  unfold wide
  go_enter Try.func10, Try.ntmps10
  go_wp2
  go_ret2
  exact ⟨rfl, (Below.refl _ _).alloc (Nat.le_refl _) _⟩

set_option maxRecDepth 100000 in
set_option maxHeartbeats 1000000 in
theorem Fits_neg_no (a b : Int) (w : World) (ha : 0 ≤ a) (ha1 : a < 4294967296) (hb : 0 ≤ b) (hb1 : b < 4294967296) (h : 9223372036854775808 < a + b * 4294967296) :
    Calls Try.prog 10 #[wide true a b 0 0] w fun e w' => e = .returned (.tuple #[.int .i64 0, .bool false]) ∧ Below w.heap.size w w' := by
  have t1 : (a + b * 4294967296 == 0) = false := by rw [beq_eq_false_iff_ne]; omega
  unfold wide
  go_enter Try.func10, Try.ntmps10
  go_wp2
  go_ret2
  exact ⟨rfl, (Below.refl _ _).alloc (Nat.le_refl _) _⟩

set_option maxRecDepth 100000 in
set_option maxHeartbeats 1000000 in
theorem Fits_neg (a b : Int) (w : World) (ha : 0 ≤ a) (ha1 : a < 4294967296) (hb : 0 ≤ b) (hb1 : b < 4294967296) (h : a + b * 4294967296 ≤ 9223372036854775808) :
    Calls Try.prog 10 #[wide true a b 0 0] w fun e w' => e = .returned (.tuple #[.int .i64 (-(a + 4294967296 * b)), .bool true]) ∧ Below w.heap.size w w' := by
  obtain ⟨u, hu⟩ : ∃ u, IntKind.u64.wrap (-(a + b * 4294967296)) = u := ⟨_, rfl⟩
  have hx := Lib.hid (show wrap64 u = -(a + 4294967296 * b) by rw [← hu]; unfold wrap64; simp [IntKind.wrap, IntKind.signed, IntKind.bits]; omega)
  unfold wide
  go_enter Try.func10, Try.ntmps10
  go_wp2
  go_ret2
  exact ⟨ret_ib hx.out rfl, (Below.refl _ _).alloc (Nat.le_refl _) _⟩

/-- Whether a wide number fits. -/
theorem Fits_any (v : Value) (n : Int) (h : IsWide v n) (w : World) :
    Calls Try.prog 10 #[v] w fun e w' => e = .returned (.tuple #[.int .i64 (fit n), .bool (inR n)]) ∧ Below w.heap.size w w' := by
  obtain ⟨s, a, b, c, d, rfl, ⟨a1, a2⟩, ⟨b1, b2⟩, ⟨c1, c2⟩, ⟨d1, d2⟩, rfl⟩ := h
  by_cases hc : 0 < c
  · have hn : inR (valW s (mag a b c d)) = false := by
      by_cases hn : inR (valW s (mag a b c d)) = true
      · have := (inR_iff _).1 hn
        unfold valW mag at this
        split at this <;> omega
      · exact eq_false_of_ne_true hn
    rw [fit_out hn, hn]
    exact Fits_big s a b c d w hc c2
  · obtain rfl : c = 0 := by omega
    by_cases hd : 0 < d
    · have hn : inR (valW s (mag a b 0 d)) = false := by
        by_cases hn : inR (valW s (mag a b 0 d)) = true
        · have := (inR_iff _).1 hn
          unfold valW mag at this
          split at this <;> omega
        · exact eq_false_of_ne_true hn
      rw [fit_out hn, hn]
      exact Fits_big2 s a b d w hd d2
    · obtain rfl : d = 0 := by omega
      cases s
      · have e : valW false (mag a b 0 0) = a + 4294967296 * b := by simp [valW, mag]
        rw [e]
        by_cases hb : b < 2147483648
        · have hn := inR_of (a + 4294967296 * b) (by omega) (by omega)
          rw [fit_in hn, hn]
          exact Fits_pos a b w a1 a2 b1 hb
        · have hn : inR (a + 4294967296 * b) = false := by
            by_cases hn : inR (a + 4294967296 * b) = true
            · have := (inR_iff _).1 hn
              omega
            · exact eq_false_of_ne_true hn
          rw [fit_out hn, hn]
          exact Fits_pos_no a b w a1 a2 (by omega) b2
      · have e : valW true (mag a b 0 0) = -(a + 4294967296 * b) := by simp [valW, mag]
        rw [e]
        by_cases hb : a + b * 4294967296 ≤ 9223372036854775808
        · have hn := inR_of (-(a + 4294967296 * b)) (by omega) (by omega)
          rw [fit_in hn, hn]
          exact Fits_neg a b w a1 a2 b1 b2 hb
        · have hn : inR (-(a + 4294967296 * b)) = false := by
            by_cases hn : inR (-(a + 4294967296 * b)) = true
            · have := (inR_iff _).1 hn
              omega
            · exact eq_false_of_ne_true hn
          rw [fit_out hn, hn]
          exact Fits_neg_no a b w a1 a2 b1 b2 (by omega)

end Go.Proofs.Ythipniehnniibaa.Num

/-
  Contracts of the answer's own wide numbers (package consignref01): what is multiplied.
-/
import Derived.Test.YthipniehnniibaaNumWide4
namespace Go.Proofs.Ythipniehnniibaa.Num
open Go.RowKit Go.Proofs.Ythipniehnniibaa.Mem
set_option linter.unusedVariables false

theorem res_Mul (tmps : Array Value) (V : World) (g : Nat) {s : Bool} {a b c d : Int} (hp : tmps[4]? = some (.pointer (some ⟨g, 0, none⟩))) (h : At V g 29 #[.bool s, .int .u64 a, .int .u64 b, .int .u64 c, .int .u64 d]) :
    (results Try.f15 tmps).run Try.prog V = .ok (wide s a b c d) V := by
  have c0 := h.cell 0
  have c1 := h.cell 1
  have c2 := h.cell 2
  have c3 := h.cell 3
  have c4 := h.cell 4
  simp only [List.getElem?_toArray, List.getElem?_cons_zero, List.getElem?_cons_succ] at c0 c1 c2 c3 c4
  simp [results, Try.results15, go_sem, wide, hp, c0, c1, c2, c3, c4]

theorem part_mul {x y : Int} (hx : 0 ≤ x) (hx' : x < 4294967296) (hy : 0 ≤ y) (hy' : y < 4294967296) : 0 ≤ x * y ∧ x * y ≤ 18446744065119617025 := by
  refine ⟨Int.mul_nonneg hx hy, ?_⟩
  have h : (x * y).natAbs ≤ 4294967295 * 4294967295 := by
    rw [Int.natAbs_mul]
    exact Nat.mul_le_mul (by omega) (by omega)
  omega

theorem carry_at (a b c d r0 r1 r2 r3 : Int) (w : World) (a1 : 0 ≤ a) (a2 : a ≤ 1099511627776) (b1 : 0 ≤ b) (b2 : b ≤ 1099511627776) (c1 : 0 ≤ c) (c2 : c ≤ 1099511627776) (d1 : 0 ≤ d) (d2 : d ≤ 1099511627776)
    (h : a % 4294967296 = r0 ∧ (b + a / 4294967296) % 4294967296 = r1 ∧ (c + (b + a / 4294967296) / 4294967296) % 4294967296 = r2 ∧ d + (c + (b + a / 4294967296) / 4294967296) / 4294967296 = r3) :
    Calls Try.prog 25 #[.agg #[.int .u64 a, .int .u64 b, .int .u64 c, .int .u64 d]] w fun e w' => e = .returned (.agg #[.int .u64 r0, .int .u64 r1, .int .u64 r2, .int .u64 r3]) ∧ Below w.heap.size w w' := by
  obtain ⟨rfl, rfl, rfl, rfl⟩ := h
  exact carry_any a b c d w a1 a2 b1 b2 c1 c2 d1 d2

/-- What comes of four products, when it is carried. -/
theorem carried (p q r s : Int) (p1 : 0 ≤ p) (p2 : p ≤ 18446744065119617025) (q1 : 0 ≤ q) (q2 : q ≤ 18446744065119617025) (r1 : 0 ≤ r) (r2 : r ≤ 18446744065119617025) (s1 : 0 ≤ s) (s2 : s ≤ 18446744065119617025) :
    ∃ x0 x1 x2 x3 : Int, (p % 4294967296 % 4294967296 = x0 ∧ (p / 4294967296 + q % 4294967296 + r % 4294967296 + p % 4294967296 / 4294967296) % 4294967296 = x1 ∧
      (q / 4294967296 + r / 4294967296 + s % 4294967296 + (p / 4294967296 + q % 4294967296 + r % 4294967296 + p % 4294967296 / 4294967296) / 4294967296) % 4294967296 = x2 ∧
      s / 4294967296 + (q / 4294967296 + r / 4294967296 + s % 4294967296 + (p / 4294967296 + q % 4294967296 + r % 4294967296 + p % 4294967296 / 4294967296) / 4294967296) / 4294967296 = x3) ∧
      (0 ≤ x0 ∧ x0 < 4294967296) ∧ (0 ≤ x1 ∧ x1 < 4294967296) ∧ (0 ≤ x2 ∧ x2 < 4294967296) ∧ (0 ≤ x3 ∧ x3 < 4294967296) ∧ mag x0 x1 x2 x3 = p + 4294967296 * (q + r + 4294967296 * s) := by
  refine ⟨_, _, _, _, ⟨rfl, rfl, rfl, rfl⟩, by omega, by omega, by omega, by omega, ?_⟩
  unfold mag
  omega

set_option maxRecDepth 100000 in
set_option maxHeartbeats 4000000 in
theorem Mul_wide (s t : Bool) (a0 a1 b0 b1 : Int) (w : World) (ha0 : 0 ≤ a0) (ha0' : a0 < 4294967296) (ha1 : 0 ≤ a1) (ha1' : a1 < 4294967296) (hb0 : 0 ≤ b0) (hb0' : b0 < 4294967296) (hb1 : 0 ≤ b1) (hb1' : b1 < 4294967296) :
    Calls Try.prog 15 #[wide s a0 a1 0 0, wide t b0 b1 0 0] w (SomeWide w (valW (s != t) (a0 * b0 + 4294967296 * (a0 * b1 + a1 * b0 + 4294967296 * (a1 * b1))))) := by
  obtain ⟨p1, p2⟩ := part_mul ha0 ha0' hb0 hb0'
  obtain ⟨q1, q2⟩ := part_mul ha0 ha0' hb1 hb1'
  obtain ⟨r1, r2⟩ := part_mul ha1 ha1' hb0 hb0'
  obtain ⟨s1, s2⟩ := part_mul ha1 ha1' hb1 hb1'
  obtain ⟨x0, x1, x2, x3, hx, hx0, hx1, hx2, hx3, hm⟩ := carried _ _ _ _ p1 p2 q1 q2 r1 r2 s1 s2
  have HX := Lib.hid hx
  have HM := Lib.hid (And.intro hx0 (And.intro hx1 (And.intro hx2 (And.intro hx3 hm))))
  clear hx hx0 hx1 hx2 hx3 hm
  unfold wide
  go_enter Try.func15, Try.ntmps15
  go_wp2
  refine wp_loop_rounds 3 ?_
  rw [rounds_succ]
  go_wp2
  refine wp_loop_rounds 3 ?_
  rw [rounds_succ]
  go_wp2
  go_region
  all_goals go_wp2
  all_goals rw [rounds_succ]
  all_goals go_wp2
  all_goals go_region
  all_goals go_wp2
  all_goals rw [rounds_succ]
  all_goals go_wp2
  all_goals rw [rounds_succ]
  all_goals go_wp2
  all_goals refine wp_loop_rounds 3 ?_
  all_goals rw [rounds_succ]
  all_goals go_wp2
  all_goals go_region
  all_goals go_wp2
  all_goals rw [rounds_succ]
  all_goals go_wp2
  all_goals go_region
  all_goals go_wp2
  all_goals rw [rounds_succ]
  all_goals go_wp2
  all_goals rw [rounds_succ]
  all_goals go_wp2_with fail
  refine (carry_at _ _ _ _ x0 x1 x2 x3 _ (by omega) (by omega) (by omega) (by omega) (by omega) (by omega) (by omega) (by omega) HX.out).mono ?_
  rintro e w1 ⟨rfl, hb⟩
  have hB : Below w.heap.size w w1 := by
    refine Below.trans (b := _) ?_ (hb.mono (by simp; omega))
    repeat (first | exact Below.refl _ _ | refine Below.drew ?_ | refine Below.alloc ?_ (by simp <;> omega) _)
  have k2 : At w1 (w.heap.size + 1 + 1) 29 #[.bool false, .int .u64 0, .int .u64 0, .int .u64 0, .int .u64 0] :=
    At.keep (((((At.new_ _ _ _ (by simp)).alloc _).drew).drew).drew).drew hb (by simp)
  have k3 : At w1 (w.heap.size + 1 + 1 + 1) 29 #[_, _, _, _, _] :=
    At.keep ((((At.new_ _ _ _ (by simp)).drew).drew).drew).drew hb (by simp)
  clear hb
  have c0 := k3.cell 0
  have c1 := k3.cell 1
  have c2 := k3.cell 2
  have c3 := k3.cell 3
  have c4 := k3.cell 4
  have d0 := k2.cell 0
  have d1 := k2.cell 1
  have d2 := k2.cell 2
  have d3 := k2.cell 3
  have d4 := k2.cell 4
  have f3 := k3.free
  have f2 := k2.free
  simp only [List.getElem?_toArray, List.getElem?_cons_zero, List.getElem?_cons_succ] at c0 c1 c2 c3 c4 d0 d1 d2 d3 d4
  have K2 := Lib.hid k2
  clear k2 k3
  go_wp2
  obtain ⟨hx0, hx1, hx2, hx3, hm⟩ := HM.out
  refine bodyPost_ret (res_Mul _ _ _ rfl (tail5 (by omega) K2.out _ _ _ _ _ _ _ _ _)) rfl ⟨⟨_, rfl, ?_⟩, tail5_below hB (by omega) (by omega) _ _ _ _ _ _ _ _ _⟩
  exact ⟨_, x0, x1, x2, x3, rfl, hx0, hx1, hx2, hx3, by rw [hm]; cases s <;> cases t <;> rfl⟩

end Go.Proofs.Ythipniehnniibaa.Num

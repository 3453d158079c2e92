/-
  consignlaw01.NumTurns returns true for all numbers: what fits can be turned back, in whichever order, and small numbers always fit. No condition.
-/
import Derived.Test.YthipniehnniibaaNumWorks
import Derived.Test.YthipniehnniibaaClose
import Derived.Test.YthipniehnniibaaOpen
namespace Go.Proofs.Ythipniehnniibaa.numTurns
open Go.ChangeShapes Go.WideShapes Go.ChangeAt Go.RowKit Go.Proofs.Ythipniehnniibaa.Num
set_option linter.unusedVariables false

theorem Add_at (a b n : Int) (f : Bool) (hn : fit (a + b) = n) (hf : inR (a + b) = f) (ha1 : -9223372036854775808 ≤ a) (ha2 : a ≤ 9223372036854775807) (hb1 : -9223372036854775808 ≤ b) (hb2 : b ≤ 9223372036854775807) (w : World) :
    Calls Try.prog 9 #[.int .i64 a, .int .i64 b] w fun e w' => e = .returned (.tuple #[.int .i64 n, .bool f]) ∧ Below w.heap.size w w' := by
  subst hn hf; exact Add_any a b ha1 ha2 hb1 hb2 w
theorem Sub_at (a b n : Int) (f : Bool) (hn : fit (a - b) = n) (hf : inR (a - b) = f) (ha1 : -9223372036854775808 ≤ a) (ha2 : a ≤ 9223372036854775807) (hb1 : -9223372036854775808 ≤ b) (hb2 : b ≤ 9223372036854775807) (w : World) :
    Calls Try.prog 12 #[.int .i64 a, .int .i64 b] w fun e w' => e = .returned (.tuple #[.int .i64 n, .bool f]) ∧ Below w.heap.size w w' := by
  subst hn hf; exact Sub_any a b ha1 ha2 hb1 hb2 w
theorem Mul_at (a b n : Int) (f : Bool) (hn : fit (a * b) = n) (hf : inR (a * b) = f) (ha1 : -9223372036854775808 ≤ a) (ha2 : a ≤ 9223372036854775807) (hb1 : -9223372036854775808 ≤ b) (hb2 : b ≤ 9223372036854775807) (w : World) :
    Calls Try.prog 14 #[.int .i64 a, .int .i64 b] w fun e w' => e = .returned (.tuple #[.int .i64 n, .bool f]) ∧ Below w.heap.size w w' := by
  subst hn hf; exact Mul_any a b ha1 ha2 hb1 hb2 w

/-- A product of two small numbers is small. -/
theorem mul_small {x y : Int} (h1 : -2147483648 ≤ x) (h2 : x ≤ 2147483647) (h3 : -2147483648 ≤ y) (h4 : y ≤ 2147483647) :
    -4611686018427387904 ≤ x * y ∧ x * y ≤ 4611686018427387904 := by
  have h : (x * y).natAbs ≤ 2147483648 * 2147483648 := by
    rw [Int.natAbs_mul]
    exact Nat.mul_le_mul (by omega) (by omega)
  omega

/-- The tests behind a product that fits. -/
theorem mul_tests {a b p : Int} (hp : a * b = p) (hb : b ≠ 0) : p.tmod b = 0 ∧ p.tdiv b = a := by
  subst hp
  exact ⟨Int.mul_tmod_left a b, Int.mul_tdiv_cancel a hb⟩

theorem fin {w u v1 v2 v3 : World} {O : Obj} {q : Nat} (d : Below (w.heap.size + 1) (w.alloc O) u) (z : w.heap.size + 1 ≤ u.heap.size)
    (e1 : Below u.heap.size (u.drewN q) v1) (e2 : Below v1.heap.size v1 v2) (e3 : Below v2.heap.size v2 v3) : Below w.heap.size w v3 := by
  have y1 : u.heap.size ≤ v1.heap.size := e1.size
  have y2 := e2.size
  have h1 : Below w.heap.size w u := (((Below.refl _ _).alloc (Nat.le_refl _) O).trans (d.mono (Nat.le_succ _)))
  have h2 : Below w.heap.size w v1 := (below_drewN h1 q).trans (e1.mono (by omega))
  exact (h2.trans (e2.mono (by omega))).trans (e3.mono (by omega))

set_option maxRecDepth 100000 in
set_option maxHeartbeats 4000000 in
theorem walk (a b x y : Int) (ha1 : -9223372036854775808 ≤ a) (ha2 : a ≤ 9223372036854775807) (hb1 : -9223372036854775808 ≤ b) (hb2 : b ≤ 9223372036854775807)
    (hx1 : -2147483648 ≤ x) (hx2 : x ≤ 2147483647) (hy1 : -2147483648 ≤ y) (hy2 : y ≤ 2147483647) (w : World) :
    Calls Try.prog 5 #[.int .i64 a, .int .i64 b, .agg #[.int .i32 x, .int .i32 y]] w fun e w' => e = .returned (.bool true) ∧ Below w.heap.size w w' := by
  obtain ⟨hm1, hm2⟩ := mul_small hx1 hx2 hy1 hy2
  obtain ⟨n, hn⟩ : ∃ n, fit (a + b) = n := ⟨_, rfl⟩
  obtain ⟨f, hf⟩ : ∃ f, inR (a + b) = f := ⟨_, rfl⟩
  obtain ⟨p, hp⟩ : ∃ p, fit (a * b) = p := ⟨_, rfl⟩
  obtain ⟨g, hg⟩ : ∃ g, inR (a * b) = g := ⟨_, rfl⟩
  have hn2 : fit (b + a) = n := by rw [Int.add_comm]; exact hn
  have hf2 : inR (b + a) = f := by rw [Int.add_comm]; exact hf
  have hp2 : fit (b * a) = p := by rw [Int.mul_comm]; exact hp
  have hg2 : inR (b * a) = g := by rw [Int.mul_comm]; exact hg
  obtain ⟨hn3, hn4⟩ : -9223372036854775808 ≤ n ∧ n ≤ 9223372036854775807 := by rw [← hn]; exact fit_bd _
  obtain ⟨hp3, hp4⟩ : -9223372036854775808 ≤ p ∧ p ≤ 9223372036854775807 := by rw [← hp]; exact fit_bd _
  have hs : f = true → fit (n - b) = a ∧ inR (n - b) = true ∧ ((b < 0 ∧ n < a) ∨ (0 ≤ b ∧ a ≤ n)) := by
    rintro rfl
    have e : n = a + b := by rw [← hn]; exact fit_in hf
    have h1 : inR (n - b) = true := inR_of _ (by omega) (by omega)
    refine ⟨by rw [fit_in h1]; omega, h1, ?_⟩
    omega
  have ht : g = true → b ≠ 0 → p.tmod b = 0 ∧ p.tdiv b = a := by
    rintro rfl hb
    exact mul_tests (by rw [← hp]; exact (fit_in hg).symm) hb
  have A1 := Lib.hid (Add_at a b n f hn hf ha1 ha2 hb1 hb2)
  have A2 := Lib.hid (Add_at b a n f hn2 hf2 hb1 hb2 ha1 ha2)
  have M1 := Lib.hid (Mul_at a b p g hp hg ha1 ha2 hb1 hb2)
  have M2 := Lib.hid (Mul_at b a p g hp2 hg2 hb1 hb2 ha1 ha2)
  clear hn hf hp hg hn2 hf2 hp2 hg2
  have S := Lib.hid hs
  have T := Lib.hid ht
  clear hs ht
  have SX := Lib.hid (Add_at x y (x + y) true (fit_in (inR_of _ (by omega) (by omega))) (inR_of _ (by omega) (by omega)) (by omega) (by omega) (by omega) (by omega))
  have DX := Lib.hid (Sub_at x y (x - y) true (fit_in (inR_of _ (by omega) (by omega))) (inR_of _ (by omega) (by omega)) (by omega) (by omega) (by omega) (by omega))
  have MX := Lib.hid (Mul_at x y (x * y) true (fit_in (inR_of _ (by omega) (by omega))) (inR_of _ (by omega) (by omega)) (by omega) (by omega) (by omega) (by omega))
  go_enter Try.func5, Try.ntmps5
  go_wp2_with fail
  refine (works_any _).mono ?_
  rintro e w1 ⟨rfl, c1⟩
  go_wp2_with fail
  refine (A1.out _).mono ?_
  rintro e w2 ⟨rfl, c2⟩
  go_wp2_with fail
  refine (A2.out _).mono ?_
  rintro e w3 ⟨rfl, c3⟩
  rw [World.size_alloc] at c1
  have z1 := c1.size
  rw [World.size_alloc] at z1
  have z2 := c2.size
  have d2 := c1.trans (c2.mono z1)
  have d3 := d2.trans (c3.mono (Nat.le_trans z1 z2))
  have z3 := Nat.le_trans z1 (Nat.le_trans z2 c3.size)
  clear c1 c2 c3 z1 z2 d2
  cases f
  · go_wp2_with fail
    refine (M1.out _).mono ?_
    rintro e u1 ⟨rfl, c1⟩
    go_wp2_with fail
    refine (M2.out _).mono ?_
    rintro e u2 ⟨rfl, c2⟩
    have d7 := d3.trans (c1.mono z3)
    have z7 := Nat.le_trans z3 c1.size
    have d8 := d7.trans (c2.mono z7)
    have z8 := Nat.le_trans z7 c2.size
    clear c1 c2 d7 z7
    cases g
    · have q0 : u2.cell? ⟨w.heap.size, 0, none⟩ = some (.int .i32 x) := (d8.cell (p := ⟨w.heap.size, 0, none⟩) (by simp)).trans (by go_simp)
      have q1 : u2.cell? ⟨w.heap.size, 1, none⟩ = some (.int .i32 y) := (d8.cell (p := ⟨w.heap.size, 1, none⟩) (by simp)).trans (by go_simp)
      go_wp2_with fail
      go_quiet (fail)
      go_wp2_with fail
      refine (SX.out _).mono ?_
      rintro e v1 ⟨rfl, e1⟩
      go_wp2_with fail
      refine (DX.out _).mono ?_
      rintro e v2 ⟨rfl, e2⟩
      go_wp2_with fail
      refine (MX.out _).mono ?_
      rintro e v3 ⟨rfl, e3⟩
      go_wp2_with fail
      go_ret
      exact ⟨rfl, fin d8 z8 e1 e2 e3⟩
    · by_cases hb0 : b = 0
      · have t0 : (b != 0) = false := by rw [hb0]; rfl
        clear hb0
        have q0 : u2.cell? ⟨w.heap.size, 0, none⟩ = some (.int .i32 x) := (d8.cell (p := ⟨w.heap.size, 0, none⟩) (by simp)).trans (by go_simp)
        have q1 : u2.cell? ⟨w.heap.size, 1, none⟩ = some (.int .i32 y) := (d8.cell (p := ⟨w.heap.size, 1, none⟩) (by simp)).trans (by go_simp)
        go_wp2_with fail
        go_quiet (fail)
        go_wp2_with fail
        refine (SX.out _).mono ?_
        rintro e v1 ⟨rfl, e1⟩
        go_wp2_with fail
        refine (DX.out _).mono ?_
        rintro e v2 ⟨rfl, e2⟩
        go_wp2_with fail
        refine (MX.out _).mono ?_
        rintro e v3 ⟨rfl, e3⟩
        go_wp2_with fail
        go_ret
        exact ⟨rfl, fin d8 z8 e1 e2 e3⟩
      · have t0 : (b != 0) = true := by rw [bne_iff_ne]; exact hb0
        have t00 : (b == 0) = false := by rw [beq_eq_false_iff_ne]; exact hb0
        obtain ⟨t1, t2⟩ := T.out rfl hb0
        have q0 : u2.cell? ⟨w.heap.size, 0, none⟩ = some (.int .i32 x) := (d8.cell (p := ⟨w.heap.size, 0, none⟩) (by simp)).trans (by go_simp)
        have q1 : u2.cell? ⟨w.heap.size, 1, none⟩ = some (.int .i32 y) := (d8.cell (p := ⟨w.heap.size, 1, none⟩) (by simp)).trans (by go_simp)
        go_wp2_with fail
        go_quiet (fail)
        go_wp2_with fail
        refine (SX.out _).mono ?_
        rintro e v1 ⟨rfl, e1⟩
        go_wp2_with fail
        refine (DX.out _).mono ?_
        rintro e v2 ⟨rfl, e2⟩
        go_wp2_with fail
        refine (MX.out _).mono ?_
        rintro e v3 ⟨rfl, e3⟩
        go_wp2_with fail
        go_ret
        exact ⟨rfl, fin d8 z8 e1 e2 e3⟩
  · obtain ⟨s1, s2, s3⟩ := S.out rfl
    have SB := Lib.hid (Sub_at n b a true s1 s2 hn3 hn4 hb1 hb2)
    clear s1 s2
    rcases s3 with ⟨s4, s5⟩ | ⟨s4, s5⟩
    · go_wp2_with fail
      refine (SB.out _).mono ?_
      rintro e w4 ⟨rfl, c4⟩
      have d4 := d3.trans (c4.mono z3)
      have z4 := Nat.le_trans z3 c4.size
      clear c4
      go_wp2_with fail
      refine (M1.out _).mono ?_
      rintro e u1 ⟨rfl, c1⟩
      go_wp2_with fail
      refine (M2.out _).mono ?_
      rintro e u2 ⟨rfl, c2⟩
      have d7 := d4.trans (c1.mono z4)
      have z7 := Nat.le_trans z4 c1.size
      have d8 := d7.trans (c2.mono z7)
      have z8 := Nat.le_trans z7 c2.size
      clear c1 c2 d7 z7
      cases g
      · have q0 : u2.cell? ⟨w.heap.size, 0, none⟩ = some (.int .i32 x) := (d8.cell (p := ⟨w.heap.size, 0, none⟩) (by simp)).trans (by go_simp)
        have q1 : u2.cell? ⟨w.heap.size, 1, none⟩ = some (.int .i32 y) := (d8.cell (p := ⟨w.heap.size, 1, none⟩) (by simp)).trans (by go_simp)
        go_wp2_with fail
        go_quiet (fail)
        go_wp2_with fail
        refine (SX.out _).mono ?_
        rintro e v1 ⟨rfl, e1⟩
        go_wp2_with fail
        refine (DX.out _).mono ?_
        rintro e v2 ⟨rfl, e2⟩
        go_wp2_with fail
        refine (MX.out _).mono ?_
        rintro e v3 ⟨rfl, e3⟩
        go_wp2_with fail
        go_ret
        exact ⟨rfl, fin d8 z8 e1 e2 e3⟩
      · by_cases hb0 : b = 0
        · have t0 : (b != 0) = false := by rw [hb0]; rfl
          clear hb0
          have q0 : u2.cell? ⟨w.heap.size, 0, none⟩ = some (.int .i32 x) := (d8.cell (p := ⟨w.heap.size, 0, none⟩) (by simp)).trans (by go_simp)
          have q1 : u2.cell? ⟨w.heap.size, 1, none⟩ = some (.int .i32 y) := (d8.cell (p := ⟨w.heap.size, 1, none⟩) (by simp)).trans (by go_simp)
          go_wp2_with fail
          go_quiet (fail)
          go_wp2_with fail
          refine (SX.out _).mono ?_
          rintro e v1 ⟨rfl, e1⟩
          go_wp2_with fail
          refine (DX.out _).mono ?_
          rintro e v2 ⟨rfl, e2⟩
          go_wp2_with fail
          refine (MX.out _).mono ?_
          rintro e v3 ⟨rfl, e3⟩
          go_wp2_with fail
          go_ret
          exact ⟨rfl, fin d8 z8 e1 e2 e3⟩
        · have t0 : (b != 0) = true := by rw [bne_iff_ne]; exact hb0
          have t00 : (b == 0) = false := by rw [beq_eq_false_iff_ne]; exact hb0
          obtain ⟨t1, t2⟩ := T.out rfl hb0
          have q0 : u2.cell? ⟨w.heap.size, 0, none⟩ = some (.int .i32 x) := (d8.cell (p := ⟨w.heap.size, 0, none⟩) (by simp)).trans (by go_simp)
          have q1 : u2.cell? ⟨w.heap.size, 1, none⟩ = some (.int .i32 y) := (d8.cell (p := ⟨w.heap.size, 1, none⟩) (by simp)).trans (by go_simp)
          go_wp2_with fail
          go_quiet (fail)
          go_wp2_with fail
          refine (SX.out _).mono ?_
          rintro e v1 ⟨rfl, e1⟩
          go_wp2_with fail
          refine (DX.out _).mono ?_
          rintro e v2 ⟨rfl, e2⟩
          go_wp2_with fail
          refine (MX.out _).mono ?_
          rintro e v3 ⟨rfl, e3⟩
          go_wp2_with fail
          go_ret
          exact ⟨rfl, fin d8 z8 e1 e2 e3⟩
    · have s6 : decide (b < 0) = false := by simpa using s4
      have s7 : decide (n < a) = false := by simpa using s5
      go_wp2_with fail
      refine (SB.out _).mono ?_
      rintro e w4 ⟨rfl, c4⟩
      have d4 := d3.trans (c4.mono z3)
      have z4 := Nat.le_trans z3 c4.size
      clear c4
      go_wp2_with fail
      refine (M1.out _).mono ?_
      rintro e u1 ⟨rfl, c1⟩
      go_wp2_with fail
      refine (M2.out _).mono ?_
      rintro e u2 ⟨rfl, c2⟩
      have d7 := d4.trans (c1.mono z4)
      have z7 := Nat.le_trans z4 c1.size
      have d8 := d7.trans (c2.mono z7)
      have z8 := Nat.le_trans z7 c2.size
      clear c1 c2 d7 z7
      cases g
      · have q0 : u2.cell? ⟨w.heap.size, 0, none⟩ = some (.int .i32 x) := (d8.cell (p := ⟨w.heap.size, 0, none⟩) (by simp)).trans (by go_simp)
        have q1 : u2.cell? ⟨w.heap.size, 1, none⟩ = some (.int .i32 y) := (d8.cell (p := ⟨w.heap.size, 1, none⟩) (by simp)).trans (by go_simp)
        go_wp2_with fail
        go_quiet (fail)
        go_wp2_with fail
        refine (SX.out _).mono ?_
        rintro e v1 ⟨rfl, e1⟩
        go_wp2_with fail
        refine (DX.out _).mono ?_
        rintro e v2 ⟨rfl, e2⟩
        go_wp2_with fail
        refine (MX.out _).mono ?_
        rintro e v3 ⟨rfl, e3⟩
        go_wp2_with fail
        go_ret
        exact ⟨rfl, fin d8 z8 e1 e2 e3⟩
      · by_cases hb0 : b = 0
        · have t0 : (b != 0) = false := by rw [hb0]; rfl
          clear hb0
          have q0 : u2.cell? ⟨w.heap.size, 0, none⟩ = some (.int .i32 x) := (d8.cell (p := ⟨w.heap.size, 0, none⟩) (by simp)).trans (by go_simp)
          have q1 : u2.cell? ⟨w.heap.size, 1, none⟩ = some (.int .i32 y) := (d8.cell (p := ⟨w.heap.size, 1, none⟩) (by simp)).trans (by go_simp)
          go_wp2_with fail
          go_quiet (fail)
          go_wp2_with fail
          refine (SX.out _).mono ?_
          rintro e v1 ⟨rfl, e1⟩
          go_wp2_with fail
          refine (DX.out _).mono ?_
          rintro e v2 ⟨rfl, e2⟩
          go_wp2_with fail
          refine (MX.out _).mono ?_
          rintro e v3 ⟨rfl, e3⟩
          go_wp2_with fail
          go_ret
          exact ⟨rfl, fin d8 z8 e1 e2 e3⟩
        · have t0 : (b != 0) = true := by rw [bne_iff_ne]; exact hb0
          have t00 : (b == 0) = false := by rw [beq_eq_false_iff_ne]; exact hb0
          obtain ⟨t1, t2⟩ := T.out rfl hb0
          have q0 : u2.cell? ⟨w.heap.size, 0, none⟩ = some (.int .i32 x) := (d8.cell (p := ⟨w.heap.size, 0, none⟩) (by simp)).trans (by go_simp)
          have q1 : u2.cell? ⟨w.heap.size, 1, none⟩ = some (.int .i32 y) := (d8.cell (p := ⟨w.heap.size, 1, none⟩) (by simp)).trans (by go_simp)
          go_wp2_with fail
          go_quiet (fail)
          go_wp2_with fail
          refine (SX.out _).mono ?_
          rintro e v1 ⟨rfl, e1⟩
          go_wp2_with fail
          refine (DX.out _).mono ?_
          rintro e v2 ⟨rfl, e2⟩
          go_wp2_with fail
          refine (MX.out _).mono ?_
          rintro e v3 ⟨rfl, e3⟩
          go_wp2_with fail
          go_ret
          exact ⟨rfl, fin d8 z8 e1 e2 e3⟩

set_option maxRecDepth 100000 in
theorem lifted (os : Os) (started : os.Started) (H : Type) (enc : TypeId × Value → H) :
    ReturnsInHanded {} Try.checked os 5 .any (Rows.numTurnsSpec.pre6 enc Try.prog Try.f5 Rows.numTurnsRow.domain false) (Rows.numTurnsSpec.post enc Try.prog Try.f5 false true false false) := by
  refine returnsInHanded_of_change (C := Try.checked) own started (by kernel_rfl) Try.func5
    (ChangeSpec.witness6 (enc := enc) (C := Try.checked) false ⟨#[], #[.int .i64 0, .int .i64 0, .agg #[.int .i32 0, .int .i32 0]], []⟩ 8 (by kernel_rfl) (by kernel_rfl) (by kernel_rfl) (by kernel_rfl)) ?_
  intro W base args ds gs before hval0 hW hcnd _
  have hval : ∀ (j : Nat) t v, Try.f5.params[j]? = some t → args[j]? = some v → Value.okWide Try.prog W .any base t v := hval0
  have hW' := hW
  obtain ⟨p, q, hA0, hV, rfl, hfz, hnd⟩ := hW
  have hA : DataW.TrodAll enc Try.prog W 0 (fun _ => true) true Try.f5.params.toList args.toList ds p := hA0
  rw [Try.params5] at hA hval
  obtain ⟨v0, vs0, d0, ds0, p0, q0, hargs, rfl, rfl, h0, r0⟩ := trodAll_cons hA
  obtain ⟨v1, vs1, d1, ds1, p1, q1, rfl, rfl, rfl, h1, r1⟩ := trodAll_cons r0
  obtain ⟨v2, vs2, d2, ds2, p2, q2, rfl, rfl, rfl, h2, r2⟩ := trodAll_cons r1
  obtain ⟨rfl, rfl, rfl⟩ := trodAll_nil r2
  obtain rfl : args = #[v0, v1, v2] := by cases args; simp_all
  obtain ⟨rfl, rfl⟩ := trodVars_none hV
  obtain ⟨a0, rfl, rfl, rfl, w0⟩ := open_int Try.underlying2 (hval 0 2 v0 rfl rfl) h0
  obtain ⟨a1, rfl, rfl, rfl, w1⟩ := open_int Try.underlying2 (hval 1 2 v1 rfl rfl) h1
  obtain ⟨xs, hl, hv2, hxs⟩ := Close.open_numbers Try.underlying42 Try.underlying21 (by kernel_rfl) (by kernel_rfl) (hval 2 42 v2 rfl rfl) h2
  match xs, hl, hv2, hxs with
  | [x, y], _, hv2, hxs =>
    obtain rfl : v2 = .agg #[.int .i32 x, .int .i32 y] := hv2
    obtain ⟨x1, x2⟩ := bounds_i32 (hxs x (by simp))
    obtain ⟨y1, y2⟩ := bounds_i32 (hxs y (by simp))
    obtain ⟨u1, u2⟩ := bounds_i64 w0
    obtain ⟨u3, u4⟩ := bounds_i64 w1
    exact (walk a0 a1 x y u1 u2 u3 u4 x1 x2 y1 y2 W).mono fun e W' ⟨he, hb⟩ => ⟨_, he, Close.law_post laidOut (by kernel_rfl) rfl (by kernel_rfl) Try.underlying4 hW' rfl hb⟩

theorem over : Rows.numTurnsRow.holds Try.pinned (OpenSpec.ofChange Rows.numTurnsSpec) :=
  OpenClaim.holds_of_wide 5 Try.f5 rfl rfl rfl rfl rfl rfl rfl ⟨rfl, rfl, rfl, rfl, rfl⟩ rfl rfl rfl rfl rfl (by kernel_rfl) Try.func5 (by kernel_rfl)
    (of_decide_eq_true (by kernel_rfl)) (by unfold Func.isWrapper; first | (rw [if_pos (by decide +kernel)]; kernel_rfl) | (rw [if_neg (by decide +kernel)]; exact ⟨rfl, rfl⟩))
    (fun os started H enc _ => lifted os started H enc)

theorem proved : Rows.NumTurnsSaid := over
#print axioms proved

end Go.Proofs.Ythipniehnniibaa.numTurns

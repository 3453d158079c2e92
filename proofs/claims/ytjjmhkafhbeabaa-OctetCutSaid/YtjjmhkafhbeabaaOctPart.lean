/-
  The law's parts: how wide a number is, and the number; parts in a row.
-/
import Derived.Test.YtjjmhkafhbeabaaOctWorks
import Derived.Test.YtjjmhkafhbeabaaOctArgs
import Derived.Test.YtjjmhkafhbeabaaTail
import Derived.Lib.QuietBelow
import Derived.BigQuiet
namespace Go.Proofs.Ytjjmhkafhbeabaa.Oct
open Go.RowKit Go.Sort Go.Proofs.Ytjjmhkafhbeabaa.Mem Go.Proofs.Ytjjmhkafhbeabaa.Route
set_option linter.unusedVariables false
attribute [local go_sem] str_append str_from str_to

theorem ret_i {k : IntKind} {a b : Int} (h : a = b) : Ending.returned (.int k a) = .returned (.int k b) := by rw [h]
theorem width_any (p : Part) (hp : p.ok) (w : World) : Calls Try.prog 26 #[.agg #[.int .u64 (p.n : Int), .int .u8 (p.w : Int), .string (str p.text), .bool p.is]] w fun e w' => e = .returned (.int .i64 (p.width : Int)) ∧ Below w.heap.size w w' := by
  obtain ⟨n, k, t, b⟩ := p
  have hk : k < 256 := hp.2
  have hW := Lib.hid (show 1 + (k : Int) % 8 = ((Part.width ⟨n, k, t, b⟩ : Nat) : Int) by
    show 1 + (k : Int) % 8 = ((1 + k % 8 : Nat) : Int)
    omega)
  have hB : Below w.heap.size w (w.alloc (.cells #[.int .u64 (n : Int), .int .u8 (k : Int), .string (str t), .bool b] 53)) := (Below.refl _ _).alloc (Nat.le_refl _) _
  clear hp
  go_enter Try.func26, Try.ntmps26
  go_wp2
  go_ret
  exact ⟨ret_i hW.out, hB⟩
set_option maxRecDepth 100000 in
set_option maxHeartbeats 4000000 in
theorem num_any (p : Part) (hp : p.ok) (w : World) : Calls Try.prog 36 #[.agg #[.int .u64 (p.n : Int), .int .u8 (p.w : Int), .string (str p.text), .bool p.is]] w fun e w' => e = .returned (.int .u64 (p.num : Int)) ∧ Below w.heap.size w w' := by
  have hc := fun V => width_any p hp V
  have hnum := Lib.hid (show p.num = p.n / 2 ^ (8 * (8 - p.width)) from rfl)
  have hw8 := p.width_le
  obtain ⟨n, k, t, b⟩ := p
  have hn : n < 18446744073709551616 := hp.1
  simp only at hc hnum ⊢
  obtain ⟨W, hW⟩ : ∃ W, Part.width ⟨n, k, t, b⟩ = W := ⟨_, rfl⟩
  obtain ⟨N, hN⟩ : ∃ N, Part.num ⟨n, k, t, b⟩ = N := ⟨_, rfl⟩
  simp only [hW] at hc hnum hw8
  simp only [hN] at hnum ⊢
  obtain ⟨m, hm⟩ : ∃ m, 8 - W = m := ⟨_, rfl⟩
  obtain ⟨q, hq⟩ : ∃ q, 8 * m = q := ⟨_, rfl⟩
  have e1 : (8 : Int) - (W : Int) = (m : Int) := by omega
  have e2 : (8 : Int) * (m : Int) = (q : Int) := by omega
  have hq64 : q < 64 := by omega
  have hm8 : (m : Int) ≤ 8 := by omega
  rw [hm, hq] at hnum
  have hcast := Lib.hid (show (n : Int) / 2 ^ q = (N : Int) by rw [hnum.out]; simp)
  clear hnum hm hq hW hN hw8 hp
  have hA := At.new w 53 #[.int .u64 (n : Int), .int .u8 (k : Int), .string (str t), .bool b]
  have hB : Below w.heap.size w (w.alloc (.cells #[.int .u64 (n : Int), .int .u8 (k : Int), .string (str t), .bool b] 53)) := (Below.refl _ _).alloc (Nat.le_refl _) _
  go_enter Try.func36, Try.ntmps36
  go_upto_region 1 with fail
  generalize w.alloc (.cells #[.int .u64 (n : Int), .int .u8 (k : Int), .string (str t), .bool b] 53) = w1 at hA hB ⊢
  have c0 := hA.cell 0
  have c1 := hA.cell 1
  have c2 := hA.cell 2
  have c3 := hA.cell 3
  have hin := hA.inside
  simp at c0 c1 c2 c3
  clear hA
  have hz1 := hB.size
  refine wp_region_quiet_below (by kernel_rfl) (by kernel_rfl) ?_
  have cW := fun d os => Calls.regrown_of (hc (grow (redrawn w1 d) os))
  have k0 := fun d os => ((below_regrown w1 d os).cell (p := ⟨w.heap.size, 0, none⟩) hin).trans c0
  have k1 := fun d os => ((below_regrown w1 d os).cell (p := ⟨w.heap.size, 1, none⟩) hin).trans c1
  have k2 := fun d os => ((below_regrown w1 d os).cell (p := ⟨w.heap.size, 2, none⟩) hin).trans c2
  have k3 := fun d os => ((below_regrown w1 d os).cell (p := ⟨w.heap.size, 3, none⟩) hin).trans c3
  repeat (go_big_quiet_step (with_reducible exact cW _ _))
  refine wpQuiet_nil ?_
  rintro w2 ⟨⟨d, os⟩, rfl⟩
  have hB2 := hB.trans ((below_regrown w1 d os).mono hz1)
  dsimp only
  clear hB k0 k1 k2 k3 cW hc
  generalize grow (redrawn w1 d) os = w2 at hB2 ⊢
  go_wp2
  go_ret
  exact ⟨ret_i hcast.out, hB2⟩

end Go.Proofs.Ytjjmhkafhbeabaa.Oct

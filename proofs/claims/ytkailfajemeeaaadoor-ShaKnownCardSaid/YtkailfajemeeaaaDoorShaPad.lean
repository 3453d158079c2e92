/-
  A text, padded: the document's pad.
-/
import Derived.Test.YtkailfajemeeaaaDoorRow
import Derived.Test.YtkailfajemeeaaaDoorShaRowM
import Derived.Test.YtkailfajemeeaaaDoorShaRound
namespace Go.Proofs.YtkailfajemeeaaaDoor.Sha
open Go.RowKit Go.Sort Go.Proofs.YtkailfajemeeaaaDoor.Mem Go.Proofs.YtkailfajemeeaaaDoor.Route
set_option linter.unusedVariables false

/-- A text's bytes. -/
def bytesOf (s : ByteArray) : List Nat := s.data.toList.map UInt8.toNat
theorem bytesOf_length (s : ByteArray) : (bytesOf s).length = s.size := by
  unfold bytesOf
  rw [List.length_map, Array.length_toList]
  rfl
theorem bytesOf_bytes (s : ByteArray) : ∀ x ∈ bytesOf s, x < 256 := by
  intro x hx
  obtain ⟨y, -, rfl⟩ := List.mem_map.1 hx
  exact y.toNat_lt
theorem bytesOf_cells (s : ByteArray) : (s.data.toList.map fun b => Value.int .u8 (b.toNat : Int)) = (bytesOf s).map u8V := by
  unfold bytesOf u8V
  rw [List.map_map]
  rfl
def lenOf : Value → Nat
  | .slice _ n _ => n
  | _ => 0
theorem info_u8S : (Tryd.prog.info? 5).map (fun i => (i.zero, i.size, i.bytes)) = some (some (.int .u8 0), 1, 1) := by kernel_rfl
/-- One byte more. -/
theorem grow_one (w : World) (base : Nat) {v : Value} {l : List Nat} {g cap : Nat} (h : RowM w base v (l.map u8V) g cap) (hlen : l.length < 999999) (hbase : base ≤ w.heap.size) (x : Nat) (ty : TypeId) :
    ∃ v' w' g' cap', (Builtin.append_ #[35, 35] ty #[v, .slice (some ⟨w.heap.size, 0, none⟩) 1 1]).run Tryd.prog (w.alloc (.cells #[.int .u8 (x : Int)] 5)) = .ok v' w' ∧ RowM w' base v' ((l ++ [x]).map u8V) g' cap' ∧ w.grownBy w' (some g) := by
  obtain ⟨i0, hi, hz0, hz1, hz2⟩ := info_parts info_u8S
  obtain ⟨v', w', g', cap', h1, h2, h3⟩ := append_one (P := Tryd.prog) (w.alloc (.cells #[.int .u8 (x : Int)] 5)) base 35 ty 5 i0 Tryd.underlying35 hi hz0 hz1 hz2 (h.alloc _) ⟨w.heap.size, 0, none⟩ 1 (u8V x)
    ((At.new w 5 #[.int .u8 (x : Int)]).cell 0) rfl (by simpa using Nat.lt_trans hlen (by decide)) (by simp; omega)
  refine ⟨v', w', g', cap', h1, by rw [List.map_append]; exact h2, ?_⟩
  exact ⟨h3.os, h3.tape, h3.output, Nat.le_trans (by simp) h3.size, fun k hk hne => (h3.block k (by simp; omega) hne).trans (Below.heap_alloc w _ k hk)⟩

set_option maxRecDepth 100000 in
set_option maxHeartbeats 4000000 in
theorem pad_any (s : ByteArray) (hs : s.size < 900000) (w : World) : Calls Tryd.prog 17 #[.string s] w fun e w' => (∃ v g cap, e = .returned v ∧ RowM w' w.heap.size v ((padL (bytesOf s)).map u8V) g cap) ∧ Below w.heap.size w w' := by
  obtain ⟨v0, w0, g0, cap0, h0, hM0, hB0⟩ := of_string (P := Tryd.prog) w w.heap.size 9 35 5 s Tryd.underlying9 Tryd.underlying35 Tryd.underlying5 (by omega) (Nat.le_refl _)
  rw [bytesOf_cells] at hM0
  have hbl := bytesOf_length s
  obtain ⟨v1, w1, g1, cap1, h1, hM1, hG1⟩ := grow_one w0 w.heap.size hM0 (by omega) hB0.size 128 35
  have hB1 : Below w.heap.size w w1 := hB0.grown hG1 hB0.size (fun r e => by cases e; exact hM0.base)
  go_enter Tryd.func17, Tryd.ntmps17
  go_wp2_with (at_builtin; refine Lib.wpList_append_run _ rfl _ _ _ _ rfl _ _ rfl rfl _ _ h1 ?_)
  obtain ⟨n, hn⟩ : ∃ n, s.size = n := ⟨_, rfl⟩
  rw [hn] at hbl hs
  obtain ⟨K, hK⟩ : ∃ K, (119 - n % 64) % 64 = K := ⟨_, rfl⟩
  obtain ⟨B, hBd⟩ : ∃ B, bytesOf s = B := ⟨_, rfl⟩
  rw [hBd] at hbl hM1
  replace hM1 := Lib.hid (show RowM w1 w.heap.size v1 ((B ++ [128] ++ List.replicate 0 0).map u8V) g1 cap1 by simpa using hM1)
  replace hB1 := Lib.hid hB1
  replace hBd := Lib.hid hBd
  replace hn := Lib.hid hn
  clear h0 h1 hM0 hB0 hG1
  go_loopw [3] (fun v wr => ∃ k : Nat, k ≤ K ∧ ∃ g cap, Hid (RowM wr w.heap.size v ((B ++ [128] ++ List.replicate k 0).map u8V) g cap) ∧ Hid (Below w.heap.size w wr))
    (fun v _ => n + 1 + K - lenOf v)
  case atStart => exact ⟨0, Nat.zero_le _, g1, cap1, hM1, hB1⟩
  case round =>
    clear hM1 hB1
    obtain ⟨wi, hwi⟩ : ∃ wi, wi = wr := ⟨_, rfl⟩
    subst hwi
    obtain ⟨k, hkK, g, cap, hM, hB⟩ := hrel
    have hll : ((B ++ [128] ++ List.replicate k 0).map u8V).length = n + 1 + k := by simp [hbl]; omega
    by_cases hlt : k < K
    · obtain ⟨v', w', g', cap', hr, hM', hgr⟩ := grow_one wi w.heap.size hM.out (by have := hll; simp at this ⊢; omega) hB.out.size 0 35
      have hB' := Lib.hid (hB.out.grown hgr hB.out.size (fun r e => by cases e; exact hM.out.base))
      have hv := hM.out.is
      rw [hll] at hv
      subst hv
      have hmod : ((n + 1 + k : Nat) : Int).tmod 64 = ((n + 1 + k) % 64 : Nat) := by rw [Int.tmod_eq_emod_of_nonneg (by omega)]; rfl
      have hne : (((n + 1 + k) % 64 : Nat) : Int) ≠ 56 := by omega
      have hM2 := Lib.hid (show RowM w' w.heap.size v' ((B ++ [128] ++ List.replicate (k + 1) 0).map u8V) g' cap' by
        rw [List.replicate_succ', ← List.append_assoc]
        exact hM')
      have hl2 : lenOf v' = n + 1 + (k + 1) := by
        rw [hM2.out.is]
        show ((B ++ [128] ++ List.replicate (k + 1) 0).map u8V).length = _
        simp [hbl]; omega
      obtain ⟨N, hN⟩ : ∃ N, n + 1 + k = N := ⟨_, rfl⟩
      obtain ⟨R, hR⟩ : ∃ R, N % 64 = R := ⟨_, rfl⟩
      rw [hN] at hmod hr hne hll
      rw [hR] at hmod hne
      rw [hN]
      replace hN := Lib.hid hN
      replace hl2 := Lib.hid hl2
      clear hR hM' hgr hM hB hll
      go_wp2_with (at_builtin; refine Lib.wpList_append_run _ rfl _ _ _ _ rfl _ _ rfl rfl _ _ hr ?_)
      go_roundw
      case rel => exact ⟨k + 1, by omega, g', cap', hM2, hB'⟩
      case measure =>
        have a := hl2.out
        have b := hN.out
        rw [a]
        show n + 1 + K - (n + 1 + (k + 1)) < n + 1 + K - N
        omega
    · obtain rfl : k = K := by omega
      clear hlt hkK
      obtain ⟨L, hL⟩ : ∃ L, B ++ [128] ++ List.replicate k 0 = L := ⟨_, rfl⟩
      have hpad := Lib.hid (show padL (bytesOf s) = L ++ (List.range 8).map (lenB n) by
        rw [hBd.out, ← hL]
        unfold padL tailL
        rw [hbl, hK]
        simp)
      have hLl : L.length = n + 1 + k := by rw [← hL]; simp [hbl]; omega
      rw [hL] at hM hll
      clear hL
      obtain ⟨N, hN⟩ : ∃ N, n + 1 + k = N := ⟨_, rfl⟩
      rw [hN] at hLl hll
      have hmod : (N : Int).tmod 64 = 56 := by rw [Int.tmod_eq_emod_of_nonneg (by omega)]; omega
      have hv := hM.out.is
      rw [hll] at hv
      subst hv
      have hNb : N < 950000 := by omega
      have hns := hn.out
      obtain ⟨M, hMM⟩ : ∃ M, 8 * n = M := ⟨_, rfl⟩
      have h8 : (8 : Int) * (n : Int) = (M : Int) := by omega
      have hM8 : M < 7200000 := by omega
      replace hM := Lib.hid (show RowM wi w.heap.size (.slice (some ⟨g, 0, none⟩) N cap) ((L ++ (List.range 0).map (lenB n)).map u8V) g cap by simpa using hM.out)
      replace hMM := Lib.hid hMM
      replace hLl := Lib.hid hLl
      clear hN hll
      go_wp2_with fail
      go_loopw [3, 5] (fun v c wr => ∃ j : Nat, c = .int .i64 (7 - (j : Int)) ∧ j ≤ 8 ∧ ∃ g cap, Hid (RowM wr w.heap.size v ((L ++ (List.range j).map (lenB n)).map u8V) g cap) ∧ Hid (Below w.heap.size w wr))
        (fun _ c _ => (intOf c + 1).toNat)
      case atStart => exact ⟨0, rfl, Nat.zero_le _, g, cap, hM, hB⟩
      case round =>
        clear hM hB
        obtain ⟨wj, hwj⟩ : ∃ wj, wj = wr := ⟨_, rfl⟩
        subst hwj
        obtain ⟨j, rfl, hj8, g, cap, hM, hB⟩ := hrel
        have hll : ((L ++ (List.range j).map (lenB n)).map u8V).length = N + j := by simp [hLl.out]
        have hv := hM.out.is
        rw [hll] at hv
        subst hv
        by_cases hlt : j < 8
        · obtain ⟨Q, hQ⟩ : ∃ Q, 8 * (7 - j) = Q := ⟨_, rfl⟩
          obtain ⟨X, hX⟩ : ∃ X, lenB n j = X := ⟨_, rfl⟩
          have hQ8 : (8 : Int) * (7 - (j : Int)) = (Q : Int) := by omega
          have hQ64 : Q < 64 := by omega
          have hXX : (M : Int) / 2 ^ Q % 256 = (X : Int) := by
            rw [← hX]
            unfold lenB
            rw [hMM.out, hQ]
            simp
          obtain ⟨v', w', g', cap', hr, hM', hgr⟩ := grow_one wj w.heap.size hM.out (by have := hLl.out; simp; omega) hB.out.size X 35
          have hB' := Lib.hid (hB.out.grown hgr hB.out.size (fun r e => by cases e; exact hM.out.base))
          have hM2 := Lib.hid (show RowM w' w.heap.size v' ((L ++ (List.range (j + 1)).map (lenB n)).map u8V) g' cap' by
            rw [show L ++ (List.range (j + 1)).map (lenB n) = L ++ (List.range j).map (lenB n) ++ [lenB n j] by rw [List.range_succ]; simp, hX]
            exact hM')
          have hc1 : (0 : Int) ≤ 7 - (j : Int) := by omega
          clear hQ hX hM' hgr hM hB hll
          go_wp2_with (at_builtin; refine Lib.wpList_append_run _ rfl _ _ _ _ rfl _ _ rfl rfl _ _ hr ?_)
          go_roundw
          case rel => exact ⟨j + 1, by congr 1; omega, by omega, g', cap', hM2, hB'⟩
          case measure => simp [intOf]; omega
        · obtain rfl : j = 8 := by omega
          clear hlt hj8 hll
          go_wp2
          go_ret
          exact ⟨⟨_, g, cap, rfl, by rw [hpad.out]; exact hM.out⟩, hB.out⟩

end Go.Proofs.YtkailfajemeeaaaDoor.Sha

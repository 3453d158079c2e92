/-
  What stands behind a text: the program's padding.
-/
import Derived.Test.YtkailfajemeeaaaDoorShaPad
import Derived.Test.YtkailfajemeeaaaDoorShaCalls
namespace Go.Proofs.YtkailfajemeeaaaDoor.Sha
open Go.RowKit Go.Sort Go.Proofs.YtkailfajemeeaaaDoor.Mem Go.Proofs.YtkailfajemeeaaaDoor.Route
set_option linter.unusedVariables false

/-- A text of these bytes. -/
def strOf (l : List Nat) : ByteArray := ⟨(l.map UInt8.ofNat).toArray⟩
theorem strOf_size (l : List Nat) : (strOf l).size = l.length := by
  show (l.map UInt8.ofNat).toArray.size = l.length
  simp
theorem bytes_str {l : List Nat} (h : ∀ x ∈ l, x < 256) : bytesOf (strOf l) = l := by
  unfold bytesOf strOf
  simp only [List.map_map]
  refine (List.map_congr_left (g := id) fun x hx => ?_).trans (List.map_id l)
  have := h x hx
  simp
  omega

theorem tailL_bytes (n : Nat) : ∀ x ∈ tailL n, x < 256 := by
  intro x hx
  simp only [tailL, List.cons_append, List.mem_cons, List.mem_append, List.mem_replicate, List.mem_map, List.mem_range] at hx
  rcases hx with rfl | ⟨-, rfl⟩ | ⟨j, -, rfl⟩
  · decide
  · decide
  · exact Nat.mod_lt _ (by decide)
theorem append_zeros {P : Program} (w : World) (base : Nat) (t tn ty e : TypeId) (i : TypeInfo) (ht : P.underlying t = some (.slice e)) (htn : P.underlying tn = some (.int .u64)) (hi : P.info? e = some i) (hz : i.zero = some (.int .u8 0)) (hs1 : i.size = 1) (hb1 : i.bytes = 1)
    {v : Value} {l : List Value} {g cap : Nat} (h : RowM w base v l g cap) (hcap : cap = l.length) (k : Nat) (hk : k < 1000) (hlen : l.length < 1000) (hbase : base ≤ w.heap.size) :
    ∃ v' w' g' cap', (Builtin.append_ #[t, tn] ty #[v, .int .u64 (k : Int)]).run P w = .ok v' w' ∧ RowM w' base v' (l ++ List.replicate k (.int .u8 0)) g' cap' ∧ w.grownBy w' none := by
  have hh := h
  obtain ⟨rfl, h1, h2, h3, h4, h5, h6, h7⟩ := h
  by_cases hk0 : k = 0
  · subst hk0
    refine ⟨_, w, g, cap, ?_, by simpa using hh, ⟨rfl, rfl, rfl, Nat.le_refl _, fun _ _ _ => rfl⟩⟩
    have hw : IntKind.i64.wrap (0 : Int) = 0 := by decide
    have hadd : ∀ k : Nat, (⟨g, 0, none⟩ : Addr).add k = ⟨g, k, none⟩ := fun k => by unfold Addr.add; split <;> simp_all
    simp [Builtin.append_, run_underlying ht, run_underlying htn, sizeOf, typeInfo, hi, asInt, asIntOf, hw, h3, storeCells]
  · have hr := Lib.run_append_grow_zeros (P := P) w t tn ty e i (.int .u8 0) .u64 .u64 ht htn hi hz (some ⟨g, 0, none⟩) l.length cap l (by
      have := run_firstCells_some (P := P) w.drew 1 l.length ⟨g, 0, none⟩ l.length cap l (by omega) (fun j u hu => by
        have : (⟨g, 0, none⟩ : Addr).add j = ⟨g, j, none⟩ := by unfold Addr.add; split <;> simp_all
        rw [this]
        exact h5 j u hu)
      rw [hs1]
      exact this) k (by omega) (by rw [hs1]; decide) (by omega) (by omega) (by rw [hb1]; omega) (growslice_fits (by omega) (by rw [hb1]; omega))
    have hge := grownCap_ge w (l.length + k) cap e
    have hcm := grownCap_le_maxLen w (l.length + k) cap e (by unfold maxLen; omega)
    obtain ⟨C, hC⟩ : ∃ C, grownCap w (l.length + k) cap e = C := ⟨_, rfl⟩
    rw [hC] at hr hge hcm
    have hzc : ∀ m, (Builtin.zeroCells (Value.int IntKind.u8 0).cells m) = (List.replicate m (Value.int IntKind.u8 0)).toArray := fun m => by
      apply Array.ext
      · rw [size_zeroCells]; simp [Value.cells]
      · intro j h1 h2
        simp [Builtin.zeroCells, Value.cells]
        simp [Nat.mod_one]
    have hN := RowM.new w.drew base e (l ++ List.replicate k (.int .u8 0)) (List.replicate (C - (l.length + k)) (.int .u8 0)) hbase (by simp; omega)
    rw [show (l ++ List.replicate k (Value.int IntKind.u8 0) ++ List.replicate (C - (l.length + k)) (Value.int IntKind.u8 0)).length = C by simp; omega] at hN
    have hobj : (l.toArray ++ Builtin.zeroCells (Value.int IntKind.u8 0).cells k ++ Builtin.zeroCells (Value.int IntKind.u8 0).cells (C - (l.length + k))) = (l ++ List.replicate k (Value.int IntKind.u8 0) ++ List.replicate (C - (l.length + k)) (Value.int IntKind.u8 0)).toArray := by rw [hzc, hzc]; simp
    rw [hobj] at hr
    have hle : (l ++ List.replicate k (Value.int IntKind.u8 0)).length = l.length + k := by simp
    rw [hle] at hN
    exact ⟨_, _, _, C, hr, ⟨by rw [hle]; rfl, hN.base, hN.inside, by rw [hle]; exact hge, hcm, hN.cells, hN.there, hN.free⟩, ⟨rfl, rfl, rfl, by simp, fun k hk _ => Below.heap_alloc w.drew _ k hk⟩⟩

/-- A row of bytes as a text. -/
theorem row_string (w : World) {base g cap : Nat} {v : Value} {l : List Nat} (h : RowM w base v (l.map u8V) g cap) (hl : ∀ x ∈ l, x < 256) : (convert 35 9 v).run Tryd.prog w = .ok (.string (strOf l)) w := by
  obtain ⟨rfl, h1, h2, h3, h4, h5, h6, h7⟩ := h
  have := run_convert_bytes_back (P := Tryd.prog) w 35 9 5 ⟨g, 0, none⟩ cap (l.map UInt8.ofNat) Tryd.underlying35 Tryd.underlying5 Tryd.underlying9 (fun j hj => by
    have hadd : (⟨g, 0, none⟩ : Addr).add j = ⟨g, j, none⟩ := by unfold Addr.add; split <;> simp_all
    rw [hadd]
    have hj' : j < l.length := by simpa using hj
    refine h5 j _ ?_
    rw [List.getElem?_map, List.getElem?_eq_getElem hj']
    have := hl _ (List.getElem_mem hj')
    simp [u8V]
    omega)
  simpa [strOf] using this

set_option maxRecDepth 100000 in
set_option maxHeartbeats 4000000 in
theorem padding_any (n : Nat) (hn : n < 900000) (w : World) : Calls Tryd.prog 21 #[.int .u64 (n : Int)] w fun e w' => e = .returned (.string (strOf (tailL n))) ∧ Below w.heap.size w w' := by
  obtain ⟨i0, hi, hz0, hz1, hz2⟩ := info_parts info_u8S
  obtain ⟨K, hK⟩ : ∃ K, (119 - n % 64) % 64 = K := ⟨_, rfl⟩
  have hK64 : K < 64 := by omega
  have hM0 : RowM (w.alloc (.cells #[.int .u8 128] 5)) w.heap.size (.slice (some ⟨w.heap.size, 0, none⟩) 1 1) [.int .u8 128] w.heap.size 1 := RowM.new w w.heap.size 5 [.int .u8 128] [] (Nat.le_refl _) (by simp [maxLen])
  obtain ⟨v1, w1, g1, cap1, h1, hM1, hG1⟩ := append_zeros (P := Tryd.prog) (w.alloc (.cells #[.int .u8 128] 5)) w.heap.size 35 49 35 5 i0 Tryd.underlying35 Tryd.underlying49 hi hz0 hz1 hz2 hM0 rfl K (by omega) (by simp) (by simp)
  have hB1 : Below w.heap.size w w1 := ((Below.refl w.heap.size w).alloc (Nat.le_refl _) (.cells #[.int .u8 128] 5)).grown hG1 (by simp) (fun r e => by cases e)
  have e1 : (n : Int) % 64 = ((n % 64 : Nat) : Int) := by omega
  obtain ⟨R, hR⟩ : ∃ R, n % 64 = R := ⟨_, rfl⟩
  rw [hR] at e1 hK
  have e2 : (119 : Int) - (R : Int) = ((119 - R : Nat) : Int) := by omega
  obtain ⟨T, hT⟩ : ∃ T, 119 - R = T := ⟨_, rfl⟩
  rw [hT] at e2 hK
  have e3 : (T : Int) % 64 = (K : Int) := by omega
  go_enter Tryd.func21, Tryd.ntmps21
  go_upto_region 2 with fail
  simp only [e1, e3]
  go_wp2_with (at_builtin; refine Lib.wpList_append_run _ rfl _ _ _ _ rfl _ _ rfl rfl _ _ h1 ?_)
  obtain ⟨L, hL⟩ : ∃ L, [128] ++ List.replicate K 0 = L := ⟨_, rfl⟩
  have hLl : L.length = 1 + K := by rw [← hL]; simp; omega
  have htl := Lib.hid (show tailL n = L ++ (List.range 8).map (lenB n) by
    rw [← hL]
    unfold tailL
    rw [show (119 - n % 64) % 64 = K by omega]
    rfl)
  replace hM1 := Lib.hid (show RowM w1 w.heap.size v1 ((L ++ (List.range 0).map (lenB n)).map u8V) g1 cap1 by
    rw [← hL]
    simpa [u8V] using hM1)
  replace hB1 := Lib.hid hB1
  obtain ⟨M, hMM⟩ : ∃ M, 8 * n = M := ⟨_, rfl⟩
  have h8 : (8 : Int) * (n : Int) = (M : Int) := by omega
  have hM8 : M < 7200000 := by omega
  replace hMM := Lib.hid hMM
  replace hLl := Lib.hid hLl
  clear hL h1 hG1 hM0 e1 e2 e3 hR hT hK
  go_loopw [4, 13] (fun v c wr => ∃ j : Nat, c = .int .i64 (j : Int) ∧ j ≤ 8 ∧ ∃ g cap, Hid (RowM wr w.heap.size v ((L ++ (List.range j).map (lenB n)).map u8V) g cap) ∧ Hid (Below w.heap.size w wr))
    (fun _ c _ => 8 - (intOf c).toNat)
  case atStart => exact ⟨0, rfl, Nat.zero_le _, g1, cap1, hM1, hB1⟩
  case round =>
    clear hM1 hB1
    obtain ⟨wj, hwj⟩ : ∃ wj, wj = wr := ⟨_, rfl⟩
    subst hwj
    obtain ⟨j, rfl, hj8, g, cap, hM, hB⟩ := hrel
    have hll : ((L ++ (List.range j).map (lenB n)).map u8V).length = 1 + K + j := by simp [hLl.out]
    have hv := hM.out.is
    rw [hll] at hv
    subst hv
    by_cases hlt : j < 8
    · have hji : (j : Int) < 8 := by omega
      obtain ⟨X, hX⟩ : ∃ X, lenB n j = X := ⟨_, rfl⟩
      have hc := fun W => byteOf64_any M 8 j (Nat.le_refl _) hlt W
      rw [show M / 2 ^ (8 * (8 - 1 - j)) % 256 = X by rw [← hX, ← hMM.out]; rfl] at hc
      obtain ⟨v', w', g', cap', hr, hM', hgr⟩ := grow_one wj w.heap.size hM.out (by have := hLl.out; simp; omega) hB.out.size X 35
      have hB' := Lib.hid (hB.out.grown hgr hB.out.size (fun r e => by cases e; exact hM.out.base))
      have hM2 := Lib.hid (show RowM w' w.heap.size v' ((L ++ (List.range (j + 1)).map (lenB n)).map u8V) g' cap' by
        rw [show L ++ (List.range (j + 1)).map (lenB n) = L ++ (List.range j).map (lenB n) ++ [lenB n j] by rw [List.range_succ]; simp, hX]
        exact hM')
      clear hX hM' hgr hM hB hll
      go_wp2_with fail
      refine (hc _).mono ?_
      clear hc
      rintro e wq ⟨rfl, rfl⟩
      go_wp2_with (at_builtin; refine Lib.wpList_append_run _ rfl _ _ _ _ rfl _ _ rfl rfl _ _ hr ?_)
      go_roundw
      case rel => exact ⟨j + 1, by go_num, by omega, g', cap', hM2, hB'⟩
      case measure => simp [intOf]; omega
    · obtain rfl : j = 8 := by omega
      have hcv := row_string wj hM.out (fun x hx => by
        rw [← htl.out] at hx
        exact tailL_bytes n x hx)
      rw [← htl.out] at hcv
      clear hlt hj8 hll hM
      go_wp2
      go_ret
      exact ⟨rfl, hB.out⟩

end Go.Proofs.YtkailfajemeeaaaDoor.Sha

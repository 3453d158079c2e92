/-
  A block's words: the program's spread.
-/
import Derived.Test.YtkailfajemeeaaaDoorShaWords
import Derived.Test.YtkailfajemeeaaaDoorShaCalls
import Derived.Test.YtkailfajemeeaaaDoorTail
namespace Go.Proofs.YtkailfajemeeaaaDoor.Sha
open Go.RowKit Go.Sort Go.Proofs.YtkailfajemeeaaaDoor.Mem Go.Proofs.YtkailfajemeeaaaDoor.Route Go.Proofs.YtkailfajemeeaaaDoor.Tail
set_option linter.unusedVariables false

/-- What the first sixteen words are made of, as the program's numbers. -/
theorem be_facts (b : List Nat) (hbl : b.length = 64) (hb8 : ∀ x ∈ b, x < 256) (i : Nat) (h16 : i < 16) :
    ∃ x0 x1 x2 x3 A0 A1 A2 O1 O2 O3 : Nat, (b[4 * i]? = some x0 ∧ b[4 * i + 1]? = some x1 ∧ b[4 * i + 2]? = some x2 ∧ b[4 * i + 3]? = some x3) ∧ (x0 < 256 ∧ x1 < 256 ∧ x2 < 256 ∧ x3 < 256) ∧
      ((x0 : Int) * 16777216 = (A0 : Int) ∧ (x1 : Int) * 65536 = (A1 : Int) ∧ (x2 : Int) * 256 = (A2 : Int)) ∧
      (bits .or .u32 (A0 : Int) (A1 : Int) = (O1 : Int) ∧ bits .or .u32 (O1 : Int) (A2 : Int) = (O2 : Int) ∧ bits .or .u32 (O2 : Int) (x3 : Int) = (O3 : Int)) ∧
      (A0 < 4294967296 ∧ A1 < 4294967296 ∧ A2 < 4294967296 ∧ O3 < 4294967296) ∧ (nextW b (wordsN b i) i).toNat = O3 := by
  have hx : ∀ j, j < 4 → ∃ x, b.getD (4 * i + j) 0 = x ∧ x < 256 ∧ b[4 * i + j]? = some x := fun j hj =>
    ⟨b[4 * i + j]'(by omega), by simp [List.getD, List.getElem?_eq_getElem (show 4 * i + j < b.length by omega)], hb8 _ (List.getElem_mem _), List.getElem?_eq_getElem _⟩
  obtain ⟨x0, h0, hb0, q0⟩ := hx 0 (by decide)
  obtain ⟨x1, h1, hb1, q1⟩ := hx 1 (by decide)
  obtain ⟨x2, h2, hb2, q2⟩ := hx 2 (by decide)
  obtain ⟨x3, h3, hb3, q3⟩ := hx 3 (by decide)
  obtain ⟨⟨e0, e1, e2⟩, e3⟩ := be_toNat hb0 hb1 hb2 hb3
  have hnx : nextW b (wordsN b i) i = BitVec.ofNat 32 x0 <<< 24 ||| BitVec.ofNat 32 x1 <<< 16 ||| BitVec.ofNat 32 x2 <<< 8 ||| BitVec.ofNat 32 x3 := by
    unfold nextW beW
    rw [if_pos h16, h1, h2, h3, show b.getD (4 * i) 0 = x0 from h0]
  have o1 := wd_or (BitVec.ofNat 32 x0 <<< 24) (BitVec.ofNat 32 x1 <<< 16)
  have o2 := wd_or (BitVec.ofNat 32 x0 <<< 24 ||| BitVec.ofNat 32 x1 <<< 16) (BitVec.ofNat 32 x2 <<< 8)
  have o3 := wd_or (BitVec.ofNat 32 x0 <<< 24 ||| BitVec.ofNat 32 x1 <<< 16 ||| BitVec.ofNat 32 x2 <<< 8) (BitVec.ofNat 32 x3)
  rw [← hnx, e3] at o3
  exact ⟨x0, x1, x2, x3, _, _, _, _, _, _, ⟨q0, q1, q2, q3⟩, ⟨hb0, hb1, hb2, hb3⟩, ⟨e0.symm, e1.symm, e2.symm⟩, ⟨o1, o2, o3⟩, ⟨wd_lt _, wd_lt _, wd_lt _, wd_lt _⟩, rfl⟩

/-- What the words behind the sixteenth are made of, as the program's numbers. -/
theorem next_facts (b : List Nat) (ws : List Wd) (j : Nat) (hlen : ws.length = j + 16) :
    ∃ (x y z t : Wd) (P7 P18 P17 P19 XA YA X3 Y3 S0 S1 N1 N2 N3 : Nat), (ws[j + 1]? = some x ∧ ws[j + 14]? = some y ∧ ws[j + 9]? = some z ∧ ws[j]? = some t) ∧
      ((rotr x 7).toNat = P7 ∧ (rotr x 18).toNat = P18 ∧ (rotr y 17).toNat = P17 ∧ (rotr y 19).toNat = P19) ∧
      (bits .xor .u32 (P7 : Int) (P18 : Int) = (XA : Int) ∧ (x.toNat : Int) / (8 : Int) = (X3 : Int) ∧ bits .xor .u32 (XA : Int) (X3 : Int) = (S0 : Int)) ∧
      (bits .xor .u32 (P17 : Int) (P19 : Int) = (YA : Int) ∧ (y.toNat : Int) / (1024 : Int) = (Y3 : Int) ∧ bits .xor .u32 (YA : Int) (Y3 : Int) = (S1 : Int)) ∧
      (((S1 : Int) + (z.toNat : Int)) % 4294967296 = (N1 : Int) ∧ ((N1 : Int) + (S0 : Int)) % 4294967296 = (N2 : Int) ∧ ((N2 : Int) + (t.toNat : Int)) % 4294967296 = (N3 : Int)) ∧
      (nextW b ws (j + 16)).toNat = N3 := by
  have hnx : nextW b ws (j + 16) = s1w (ws[j + 14]'(by omega)) + ws[j + 9]'(by omega) + s0w (ws[j + 1]'(by omega)) + ws[j]'(by omega) := by
    unfold nextW
    rw [if_neg (by omega)]
    simp [List.getD, List.getElem?_eq_getElem (show j + 14 < ws.length by omega), List.getElem?_eq_getElem (show j + 9 < ws.length by omega), List.getElem?_eq_getElem (show j + 1 < ws.length by omega), List.getElem?_eq_getElem (show j < ws.length by omega)]
  refine ⟨ws[j + 1]'(by omega), ws[j + 14]'(by omega), ws[j + 9]'(by omega), ws[j]'(by omega), _, _, _, _, _, _, _, _, _, _, _, _, _, ⟨List.getElem?_eq_getElem _, List.getElem?_eq_getElem _, List.getElem?_eq_getElem _, List.getElem?_eq_getElem _⟩, ⟨rfl, rfl, rfl, rfl⟩,
    ⟨wd_xor _ _, wd_shr _ 3, wd_xor _ _⟩, ⟨wd_xor _ _, wd_shr _ 10, wd_xor _ _⟩, ⟨wd_addm _ _, wd_addm _ _, wd_addm _ _⟩, ?_⟩
  rw [hnx]
  rfl
theorem words_put {b : List Nat} {i O : Nat} (h : i < 64) (hO : (nextW b (wordsN b i) i).toNat = O) : (padW 64 (wordsN b i)).set i (.int .u32 (O : Int)) = padW 64 (wordsN b (i + 1)) := by
  have := padW_set (n := 64) (ws := wordsN b i) (by rw [wordsN_len]; exact h) (nextW b (wordsN b i) i)
  rw [wordsN_len] at this
  rw [← hO]
  exact this
theorem padW_hole {n i : Nat} {ws : List Wd} (h : ws.length = i) (hi : i < n) : (padW n ws)[i]? = some (.int .u32 0) := by
  unfold padW
  rw [List.map_append, List.getElem?_append_right (by simp [h]), List.length_map, h, Nat.sub_self, List.getElem?_map, List.getElem?_replicate, if_pos (by omega)]
  rfl

set_option maxRecDepth 100000 in
set_option maxHeartbeats 4000000 in
theorem spread_any (b : List Nat) (hbl : b.length = 64) (hb8 : ∀ x ∈ b, x < 256) (w : World) :
    Calls Tryd.prog 28 #[.agg (b.map u8V).toArray] w fun e w' => e = .returned (.agg ((wordsN b 64).map u32V).toArray) ∧ Below w.heap.size w w' := by
  go_enter Tryd.func28, Tryd.ntmps28
  go_upto_region 2 with fail
  have hA0 : AtL (((w.alloc (.cells (b.map u8V).toArray 48)).alloc (.cells (padW 64 []).toArray 63)).alloc (.cells (padW 64 []).toArray 63)) w.heap.size 48 (b.map u8V) := ((AtL.new w _ _).alloc _).alloc _
  have hR0 : AtL (((w.alloc (.cells (b.map u8V).toArray 48)).alloc (.cells (padW 64 []).toArray 63)).alloc (.cells (padW 64 []).toArray 63)) (w.heap.size + 1) 63 (padW 64 []) := by
    have := (AtL.new (w.alloc (.cells (b.map u8V).toArray 48)) 63 (padW 64 [])).alloc (.cells (padW 64 []).toArray 63)
    rwa [World.size_alloc] at this
  have hW0 : AtL (((w.alloc (.cells (b.map u8V).toArray 48)).alloc (.cells (padW 64 []).toArray 63)).alloc (.cells (padW 64 []).toArray 63)) (w.heap.size + 1 + 1) 63 (padW 64 (wordsN b 0)) := by
    have := AtL.new ((w.alloc (.cells (b.map u8V).toArray 48)).alloc (.cells (padW 64 []).toArray 63)) 63 (padW 64 [])
    rwa [World.size_alloc, World.size_alloc] at this
  have hB0 : Below w.heap.size w (((w.alloc (.cells (b.map u8V).toArray 48)).alloc (.cells (padW 64 []).toArray 63)).alloc (.cells (padW 64 []).toArray 63)) :=
    (((Below.refl _ _).alloc (Nat.le_refl _) _).alloc (by simp) _).alloc (by simp; omega) _
  generalize hz : World.alloc (World.alloc (World.alloc w _) _) _ = w1
  replace hA0 : AtL w1 w.heap.size 48 (b.map u8V) := by rw [← hz]; exact hA0
  replace hR0 : AtL w1 (w.heap.size + 1) 63 (padW 64 []) := by rw [← hz]; exact hR0
  replace hW0 : AtL w1 (w.heap.size + 1 + 1) 63 (padW 64 (wordsN b 0)) := by rw [← hz]; exact hW0
  replace hB0 : Below w.heap.size w w1 := by rw [← hz]; exact hB0
  clear hz
  obtain ⟨n, hn⟩ : ∃ n, w.heap.size = n := ⟨_, rfl⟩
  simp only [hn] at hA0 hR0 hW0 hB0 ⊢
  replace hn := Lib.hid hn
  go_wp2_with fail
  go_loopw [10] (fun c wr => ∃ i : Nat, c = .int .i64 (i : Int) ∧ i ≤ 16 ∧ Hid (AtL wr n 48 (b.map u8V)) ∧ Hid (AtL wr (n + 1) 63 (padW 64 [])) ∧ Hid (AtL wr (n + 1 + 1) 63 (padW 64 (wordsN b i))) ∧ Hid (Below n w wr))
    (fun c _ => 16 - (intOf c).toNat)
  case atStart => exact ⟨0, rfl, Nat.zero_le _, Lib.hid hA0, Lib.hid hR0, Lib.hid hW0, Lib.hid hB0⟩
  case round =>
    clear hA0 hR0 hW0 hB0
    obtain ⟨wi, hwi⟩ : ∃ wi, wi = wr := ⟨_, rfl⟩
    subst hwi
    obtain ⟨i, rfl, hi16, hA, hR, hW, hB⟩ := hrel
    by_cases hlt : i < 16
    · have hii : (i : Int) < 16 := by omega
      obtain ⟨x0, x1, x2, x3, A0, A1, A2, O1, O2, O3, ⟨q0, q1, q2, q3⟩, ⟨b0, b1, b2, b3⟩, ⟨f0, f1, f2⟩, ⟨o1, o2, o3⟩, ⟨l0, l1, l2, l3⟩, hO⟩ := be_facts b hbl hb8 i hlt
      have k0 := cell_regrown (hA.out.get (i := 4 * i) (x := .int .u8 (x0 : Int)) (by rw [List.getElem?_map, q0]; rfl))
      have k1 := cell_regrown (hA.out.get (i := 4 * i + 1) (x := .int .u8 (x1 : Int)) (by rw [List.getElem?_map, q1]; rfl))
      have k2 := cell_regrown (hA.out.get (i := 4 * i + 2) (x := .int .u8 (x2 : Int)) (by rw [List.getElem?_map, q2]; rfl))
      have k3 := cell_regrown (hA.out.get (i := 4 * i + 3) (x := .int .u8 (x3 : Int)) (by rw [List.getElem?_map, q3]; rfl))
      clear q0 q1 q2 q3
      replace hO := Lib.hid hO
      go_upto_region 5 with fail
      refine wp_region_below_tail 31 (by kernel_rfl) (by kernel_rfl) (by kernel_rfl) ?_
      simp only [List.take_succ_cons, List.take_zero, List.drop_succ_cons, List.drop_zero]
      repeat (go_big_quiet_step (fail))
      refine wpQuiet_nil ?_
      intro _ hw'
      obtain ⟨⟨dq, osq⟩, hw''⟩ := hw'
      subst hw''
      have hg := below_regrown wi dq osq
      have hA' := Lib.hid (hA.out.on hg)
      have hR' := Lib.hid (hR.out.on hg)
      have hW' := hW.out.on hg
      have hB' := Lib.hid (hB.out.trans (hg.mono (by have := hA.out.inside; omega)))
      clear hA hR hW hB hg k0 k1 k2 k3
      generalize grow (redrawn wi dq) osq = wt at *
      have c0 := hW'.get (padW_hole (wordsN_len b i) (by omega))
      have c1 := hW'.free i
      have hW2 := hW'.put i (.int .u32 (O3 : Int))
      rw [words_put (by omega) hO.out] at hW2
      replace hW2 := Lib.hid hW2
      have hA2 := Lib.hid (hA'.out.far (b := n + 1 + 1) (by omega) i (.int .u32 (O3 : Int)))
      have hR2 := Lib.hid (hR'.out.far (b := n + 1 + 1) (by omega) i (.int .u32 (O3 : Int)))
      have hB2 := Lib.hid (hB'.out.setCell (p := ⟨n + 1 + 1, i, none⟩) (by show n ≤ n + 1 + 1; omega) (.int .u32 (O3 : Int)))
      clear hA' hR' hB' hW'
      go_wp2
      go_roundw
      case rel => exact ⟨i + 1, by go_num, by omega, hA2, hR2, hW2, hB2⟩
      case measure => simp [intOf]; omega
    · obtain rfl : i = 16 := by omega
      clear hlt hi16
      simp only [show ((16 : Nat) : Int) = 16 from rfl]
      go_wp2_with fail
      go_loopw [5] (fun c wr => ∃ j : Nat, c = .int .i64 ((j : Int) + 16) ∧ j ≤ 48 ∧ Hid (AtL wr (n + 1) 63 (padW 64 [])) ∧ Hid (AtL wr (n + 1 + 1) 63 (padW 64 (wordsN b (j + 16)))) ∧ Hid (Below n w wr))
        (fun c _ => 64 - (intOf c).toNat)
      case atStart => exact ⟨0, rfl, Nat.zero_le _, hR, hW, hB⟩
      case round =>
        clear hA hR hW hB
        obtain ⟨wi, hwi⟩ : ∃ wi, wi = wr := ⟨_, rfl⟩
        subst hwi
        obtain ⟨j, rfl, hj48, hR, hW, hB⟩ := hrel
        by_cases hlt : j < 48
        · have hji : (j : Int) + 16 < 64 := by omega
          have hlen := wordsN_len b (j + 16)
          obtain ⟨x, y, z, t, P7, P18, P17, P19, XA, YA, X3, Y3, S0, S1, N1, N2, N3, ⟨g1, g2, g3, g4⟩, ⟨p1, p2, p3, p4⟩, ⟨a1, a2, a3⟩, ⟨d1, d2, d3⟩, ⟨m1, m2, m3⟩, hN⟩ := next_facts b _ j hlen
          have hgt : ∀ k v, (wordsN b (j + 16))[k]? = some v → wi.cell? ⟨n + 1 + 1, k, none⟩ = some (.int .u32 (v.toNat : Int)) := fun k v h => by
            have hk := (List.getElem?_eq_some_iff.1 h).1
            refine hW.out.get ?_
            rw [padW_get hk, (List.getElem?_eq_some_iff.1 h).2]
            rfl
          have r7 := fun W => protr_any x 7 (by decide) (by decide) W
          have r18 := fun W => protr_any x 18 (by decide) (by decide) W
          have r17 := fun W => protr_any y 17 (by decide) (by decide) W
          have r19 := fun W => protr_any y 19 (by decide) (by decide) W
          rw [p1] at r7
          rw [p2] at r18
          rw [p3] at r17
          rw [p4] at r19
          have k1 := cell_regrown (hgt _ _ g1)
          have k2 := cell_regrown (hgt _ _ g2)
          have k3 := hgt _ _ g3
          have k4 := hgt _ _ g4
          replace hN := Lib.hid hN
          clear g1 g2 g3 g4 p1 p2 p3 p4 hgt hlen
          generalize x.toNat = X at *
          generalize y.toNat = Y at *
          generalize z.toNat = Z at *
          generalize t.toNat = T at *
          have ea : (j : Int) + 16 - 15 = (j : Int) + 1 := by omega
          have eb : (j : Int) + 16 - 2 = (j : Int) + 14 := by omega
          have ec : (j : Int) + 16 - 7 = (j : Int) + 9 := by omega
          have ed : (j : Int) + 16 - 16 = (j : Int) := by omega
          have i1 : (j : Int) + 1 < 64 := by omega
          have i2 : (j : Int) + 14 < 64 := by omega
          have i3 : (j : Int) + 9 < 64 := by omega
          have i4 : (j : Int) < 64 := by omega
          go_upto_region 10 with fail
          refine wp_region_quiet_below (by kernel_rfl) (by kernel_rfl) ?_
          repeat (go_big_quiet_step (fail))
          refine wpQuiet_nil ?_
          intro _ hw'
          obtain ⟨⟨dr, osr⟩, hw''⟩ := hw'
          subst hw''
          have hg := below_regrown wi dr osr
          have hR' := Lib.hid (hR.out.on hg)
          have hW' := Lib.hid (hW.out.on hg)
          have hB' := Lib.hid (hB.out.trans (hg.mono (by have := hR.out.inside; omega)))
          have k3' := cell_regrown k3
          have k4' := cell_regrown k4
          replace k3' := k3' dr osr
          replace k4' := k4' dr osr
          clear hR hW hB hg k1 k2 k3 k4
          generalize grow (redrawn wi dr) osr = wk at *
          go_wp2_with fail
          refine (r7 _).mono ?_
          rintro e w' ⟨rfl, rfl⟩
          go_wp2_with fail
          refine (r18 _).mono ?_
          rintro e w' ⟨rfl, rfl⟩
          go_wp2_with fail
          refine (r17 _).mono ?_
          rintro e w' ⟨rfl, rfl⟩
          go_wp2_with fail
          refine (r19 _).mono ?_
          rintro e w' ⟨rfl, rfl⟩
          clear r7 r18 r17 r19
          have k3 := cell_regrown k3'
          have k4 := cell_regrown k4'
          clear k3' k4'
          obtain ⟨wk, hwk⟩ : ∃ wk, wk = w' := ⟨_, rfl⟩
          subst hwk
          go_upto_region 13 with fail
          refine wp_region_below_tail 15 (by kernel_rfl) (by kernel_rfl) (by kernel_rfl) ?_
          simp only [List.take_succ_cons, List.take_zero, List.drop_succ_cons, List.drop_zero]
          repeat (go_big_quiet_step (fail))
          refine wpQuiet_nil ?_
          intro _ hw'
          obtain ⟨⟨dq, osq⟩, hw''⟩ := hw'
          subst hw''
          have hg := below_regrown wk dq osq
          have hR2 := hR'.out.on hg
          have hW2 := hW'.out.on hg
          have hB2 := hB'.out.trans (hg.mono (by have := hR'.out.inside; omega))
          clear hR' hW' hB' hg k3 k4
          generalize grow (redrawn wk dq) osq = wt at *
          have c0 := hW2.get (padW_hole (wordsN_len b (j + 16)) (by omega))
          have c1 := hW2.free (j + 16)
          have hW3 := hW2.put (j + 16) (.int .u32 (N3 : Int))
          rw [words_put (by omega) hN.out, show j + 16 + 1 = j + 1 + 16 by omega] at hW3
          replace hW3 := Lib.hid hW3
          have hR3 := Lib.hid (hR2.far (b := n + 1 + 1) (by omega) (j + 16) (.int .u32 (N3 : Int)))
          have hB3 := Lib.hid (hB2.setCell (p := ⟨n + 1 + 1, j + 16, none⟩) (by show n ≤ n + 1 + 1; omega) (.int .u32 (N3 : Int)))
          clear hR2 hB2 hW2
          go_wp2
          go_roundw
          case rel => exact ⟨j + 1, by go_num, by omega, hR3, hW3, hB3⟩
          case measure => simp [intOf]; omega
        · obtain rfl : j = 48 := by omega
          clear hlt hj48
          have hL := padW_all (wordsN_len b 64)
          have hlw := wordsN_len b 64
          have hAt : AtL wi (n + 1 + 1) 63 ((wordsN b 64).map u32V) := by rw [← hL]; exact hW.out
          have hR2 := hR.out.row ((wordsN b 64).map u32V)
          have hB2 := below_row hB.out (show n ≤ n + 1 by omega) ((wordsN b 64).map u32V).toArray
          have hI : (Tryd.prog.info? 63).map (·.size) = some 64 := by kernel_rfl
          have hs : ((wordsN b 64).map u32V).toArray.size = 64 := by simp [hlw]
          have ho : (padW 64 []).toArray.size = ((wordsN b 64).map u32V).toArray.size := by rw [hs]; rfl
          have h1 : ((wordsN b 64).map u32V).toArray.all (·.oneCell') = true := Array.all_eq_true_iff_forall_mem.2 fun v hv => one_u32 v (by simpa using hv)
          have hI' : (Tryd.prog.info? 63).map (·.size) = some ((wordsN b 64).map u32V).toArray.size := by rw [hs]; exact hI
          have hRr := hR.out
          clear hL hlw hs hI hR hW hB
          replace h1 := Lib.hid h1
          replace ho := Lib.hid ho
          replace hI' := Lib.hid hI'
          have e64 : ((48 : Nat) : Int) + 16 = 64 := rfl
          go_upto_region 14 with fail
          clear e64
          go_wp2_with (first | (refine wpList_load_row rfl 63 _ rfl (n + 1 + 1) rfl 63 ((wordsN b 64).map u32V).toArray (0, 0) _ hAt Tryd.underlying63 rfl hI'.out ?_) | (refine wpList_store_row rfl 63 _ _ rfl (n + 1) ((wordsN b 64).map u32V).toArray rfl rfl 63 (padW 64 []).toArray hRr hI'.out ho.out h1.out ?_))
          refine bodyPost_ret (ret_array rfl rfl hR2 _ Tryd.underlying63 rfl (by have := hI'.out; simpa using this)) rfl ⟨rfl, ?_⟩
          rw [hn.out]
          exact hB2

end Go.Proofs.YtkailfajemeeaaaDoor.Sha

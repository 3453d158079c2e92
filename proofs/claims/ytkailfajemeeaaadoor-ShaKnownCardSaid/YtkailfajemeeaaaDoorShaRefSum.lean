/-
  The sum of a text: the document's Sum.
-/
import Derived.Test.YtkailfajemeeaaaDoorShaBlock
import Derived.Test.YtkailfajemeeaaaDoorShaPad
import Derived.Test.YtkailfajemeeaaaDoorShaDigest
import Derived.Test.YtkailfajemeeaaaDoorShaPadding
namespace Go.Proofs.YtkailfajemeeaaaDoor.Sha
open Go.RowKit Go.Sort Go.Proofs.YtkailfajemeeaaaDoor.Mem Go.Proofs.YtkailfajemeeaaaDoor.Route Go.Proofs.YtkailfajemeeaaaDoor.Tail
set_option linter.unusedVariables false

theorem hs_any (w : World) : Calls Tryd.prog 16 #[.int .i64 8, .bool false] w fun e w' => (∃ g cap, e = .returned (.slice (some ⟨g, 0, none⟩) 8 cap) ∧ w.heap.size ≤ g ∧ g < w'.heap.size ∧ ∀ i x, hT[i]? = some x → w'.cell? ⟨g, i, none⟩ = some (.int .u32 (x.toNat : Int))) ∧ Below w.heap.size w w' :=
  (fractions_any 8 false (by decide) w).mono fun e w' ⟨⟨u, e1, ho⟩, hb⟩ => by
    have e2 : ((primesL 8).map fun p => u32V (fracW p false)) = hT.map u32V := by
      rw [← hs_eq]
      unfold hsL
      rw [List.map_map]
      rfl
    have e3 : (primesL 8).length = 8 := by
      have := congrArg List.length hs_eq
      simpa [hsL, hT] using this
    rw [e2, e3] at ho
    obtain ⟨g, cap, rfl, h1, h2, h3⟩ := words_row ho rfl (by decide)
    exact ⟨⟨g, cap, e1, h1, h2, h3⟩, hb⟩
theorem ks_any (w : World) : Calls Tryd.prog 16 #[.int .i64 64, .bool true] w fun e w' => (∃ g cap, e = .returned (.slice (some ⟨g, 0, none⟩) 64 cap) ∧ w.heap.size ≤ g ∧ g < w'.heap.size ∧ ∀ i x, kT[i]? = some x → w'.cell? ⟨g, i, none⟩ = some (.int .u32 (x.toNat : Int))) ∧ Below w.heap.size w w' :=
  (fractions_any 64 true (by decide) w).mono fun e w' ⟨⟨u, e1, ho⟩, hb⟩ => by
    have e2 : ((primesL 64).map fun p => u32V (fracW p true)) = kT.map u32V := by
      rw [← ks_eq]
      unfold ksL
      rw [List.map_map]
      rfl
    have e3 : (primesL 64).length = 64 := by
      have := congrArg List.length ks_eq
      rw [show kT.length = 64 by decide +kernel] at this
      simpa [ksL] using this
    rw [e2, e3] at ho
    obtain ⟨g, cap, rfl, h1, h2, h3⟩ := words_row ho (by decide +kernel) (by decide)
    exact ⟨⟨g, cap, e1, h1, h2, h3⟩, hb⟩

theorem init_at {i : Nat} (hi : i < 8) : ∃ x, hT[i]? = some x ∧ (stL initS)[i]? = some (.int .u32 (x.toNat : Int)) := by
  match i, hi with
  | 0, _ => exact ⟨_, rfl, rfl⟩
  | 1, _ => exact ⟨_, rfl, rfl⟩
  | 2, _ => exact ⟨_, rfl, rfl⟩
  | 3, _ => exact ⟨_, rfl, rfl⟩
  | 4, _ => exact ⟨_, rfl, rfl⟩
  | 5, _ => exact ⟨_, rfl, rfl⟩
  | 6, _ => exact ⟨_, rfl, rfl⟩
  | 7, _ => exact ⟨_, rfl, rfl⟩
/-- A block of a row of bytes. -/
theorem RowM.part {W : World} {base g cap : Nat} {v : Value} {l : List Nat} (h : RowM W base v (l.map u8V) g cap) (o c : Nat) (hc : 64 ≤ c) (hcm : c ≤ maxLen) (hl : o + 64 ≤ l.length) : RowB W.heap.size W (.slice (some ⟨g, o, none⟩) 64 c) 1 (((l.drop o).take 64).map fun p => [u8V p]) := by
  have hlen : (((l.drop o).take 64).map fun p => [u8V p]).length = 64 := by simp; omega
  refine ⟨some ⟨g, o, none⟩, c, by rw [hlen], by omega, hcm, fun e => (by cases e), fun j r hj => ⟨g, o, rfl, h.inside, fun k u hk => ?_⟩⟩
  rw [List.getElem?_map] at hj
  obtain ⟨p, hp, rfl⟩ := Option.map_eq_some_iff.1 hj
  have hjl := (List.getElem?_eq_some_iff.1 hp).1
  simp at hjl
  match k, hk with
  | 0, hk =>
    simp at hk
    subst hk
    refine h.cells _ _ ?_
    rw [List.getElem?_take_of_lt (by omega), List.getElem?_drop] at hp
    rw [List.getElem?_map, show o + j * 1 + 0 = o + j by omega, hp]
    rfl

theorem padL_bytes (l : List Nat) (h : ∀ x ∈ l, x < 256) : ∀ x ∈ padL l, x < 256 := by
  intro x hx
  rcases List.mem_append.1 hx with hx | hx
  · exact h x hx
  · exact tailL_bytes _ x hx
theorem padL_length (l : List Nat) : ∃ q, (padL l).length = 64 * q ∧ 64 * q ≤ l.length + 72 := by
  have h := tail_length l.length
  have h2 : (tailL l.length).length = 1 + (119 - l.length % 64) % 64 + 8 := by simp [tailL]; omega
  refine ⟨(padL l).length / 64, ?_, ?_⟩
  · unfold padL
    rw [List.length_append]
    omega
  · unfold padL
    rw [List.length_append, h2]
    omega
set_option maxRecDepth 100000 in
set_option maxHeartbeats 4000000 in
theorem refSum_any (t : ByteArray) (ht : t.size < 900000) (w : World) : Calls Tryd.prog 9 #[.string t] w fun e w' => e = .returned (.agg ((sumL (bytesOf t)).map u8V).toArray) ∧ Below w.heap.size w w' := by
  have hA0 : AtL ((w.alloc (.cells (padB 32 []).toArray 23)).alloc (.cells (padW 8 []).toArray 40)) w.heap.size 23 (padB 32 []) := (AtL.new w _ _).alloc _
  have hR0 : AtL ((w.alloc (.cells (padB 32 []).toArray 23)).alloc (.cells (padW 8 []).toArray 40)) (w.heap.size + 1) 40 (padW 8 []) := by
    have := AtL.new (w.alloc (.cells (padB 32 []).toArray 23)) 40 (padW 8 [])
    rwa [World.size_alloc] at this
  have hB0 : Below w.heap.size w ((w.alloc (.cells (padB 32 []).toArray 23)).alloc (.cells (padW 8 []).toArray 40)) :=
    ((Below.refl _ _).alloc (Nat.le_refl _) _).alloc (by simp) _
  go_enter Tryd.func9, Tryd.ntmps9
  go_upto_region 2 with fail
  generalize hz : World.alloc (World.alloc w _) _ = w1
  replace hA0 : AtL w1 w.heap.size 23 (padB 32 []) := by rw [← hz]; exact hA0
  replace hR0 : AtL w1 (w.heap.size + 1) 40 (padW 8 []) := by rw [← hz]; exact hR0
  replace hB0 : Below w.heap.size w w1 := by rw [← hz]; exact hB0
  clear hz
  obtain ⟨n, hn⟩ : ∃ n, w.heap.size = n := ⟨_, rfl⟩
  simp only [hn] at hA0 hR0 hB0 ⊢
  replace hn := Lib.hid hn
  go_wp2_with fail
  refine (hs_any _).mono ?_
  rintro e w2 ⟨⟨gh, ch, rfl, hg1, hg2, hhs⟩, hb2⟩
  replace hB0 := hB0.trans (hb2.mono (Nat.le_of_lt hA0.inside))
  have hgn : n + 1 < gh := by have := hR0.inside; omega
  replace hA0 := hA0.on hb2
  replace hR0 : AtL w2 (n + 1) 40 (mixL (stL initS) (padW 8 []) 0) := hR0.on hb2
  replace hA0 := Lib.hid hA0
  replace hR0 := Lib.hid hR0
  replace hB0 := Lib.hid hB0
  replace hhs := Lib.hid hhs
  clear hb2 hg1
  go_wp2_with fail
  go_loopw [5] (fun c wr => ∃ i : Nat, c = .int .i64 (i : Int) ∧ i ≤ 8 ∧ Hid (AtL wr n 23 (padB 32 [])) ∧ Hid (AtL wr (n + 1) 40 (mixL (stL initS) (padW 8 []) i)) ∧ Hid (∀ i x, hT[i]? = some x → wr.cell? ⟨gh, i, none⟩ = some (.int .u32 (x.toNat : Int))) ∧ Hid (Below n w wr))
    (fun c _ => 8 - (intOf c).toNat)
  case atStart => exact ⟨0, rfl, Nat.zero_le _, hA0, hR0, hhs, hB0⟩
  case round =>
    clear hA0 hR0 hB0 hhs
    obtain ⟨wi, hwi⟩ : ∃ wi, wi = wr := ⟨_, rfl⟩
    subst hwi
    obtain ⟨i, rfl, hi8, hA, hR, hh, hB⟩ := hrel
    by_cases hlt : i < 8
    · have hii : (i : Int) < 8 := by omega
      obtain ⟨x, hx, hsx⟩ := init_at hlt
      have k0 := hh.out i x hx
      generalize x.toNat = X at *
      have hpl : ∃ y, (padW 8 [])[i]? = some y := ⟨_, List.getElem?_eq_getElem (by show i < 8; omega)⟩
      obtain ⟨y, hy⟩ := hpl
      have c0 := hR.out.get ((mix_get (a := stL initS) (b := padW 8 []) rfl hlt).trans hy)
      have c1 := hR.out.free i
      have hR2 := hR.out.put i (.int .u32 (X : Int))
      rw [mix_set (a := stL initS) (b := padW 8 []) rfl hsx] at hR2
      replace hR2 := Lib.hid hR2
      have hA2 := Lib.hid (hA.out.far (b := n + 1) (by omega) i (.int .u32 (X : Int)))
      have hB2 := Lib.hid (hB.out.setCell (p := ⟨n + 1, i, none⟩) (by show n ≤ n + 1; omega) (.int .u32 (X : Int)))
      have hh2 := Lib.hid (show ∀ j x, hT[j]? = some x → (wi.setCell ⟨n + 1, i, none⟩ (.int .u32 (X : Int))).cell? ⟨gh, j, none⟩ = some (.int .u32 (x.toNat : Int)) from fun j x h => by
        rw [World.cell?_setCell_other _ _ _ _ (by simp; try omega)]
        exact hh.out j x h)
      clear hA hR hB hh hx hsx hy
      go_wp2
      go_roundw
      case rel => exact ⟨i + 1, by go_num, by omega, hA2, hR2, hh2, hB2⟩
      case measure => simp [intOf]; omega
    · obtain rfl : i = 8 := by omega
      clear hlt hi8 hh
      simp only [show ((8 : Nat) : Int) = 8 from rfl]
      go_wp2_with fail
      refine (ks_any _).mono ?_
      rintro e w3 ⟨⟨gk, ck, rfl, hg3, hg4, hks⟩, hb3⟩
      have hB3 := hB.out.trans (hb3.mono (Nat.le_of_lt hA.out.inside))
      have hA3 := hA.out.on hb3
      have hS3 : AtL w3 (n + 1) 40 (stL initS) := hR.out.on hb3
      have hkn : n + 1 < gk := by have := hR.out.inside; omega
      clear hA hR hB hb3 hg3
      go_wp2_with fail
      refine (pad_any t ht _).mono ?_
      rintro e w4 ⟨⟨bv, gb, cb, rfl, hM⟩, hb4⟩
      have hB4 := hB3.trans (hb4.mono (Nat.le_of_lt hA3.inside))
      have hA4 := hA3.on hb4
      have hS4 := hS3.on hb4
      have hbn : n + 1 < gb := by have := hM.base; have := hS3.inside; omega
      have hks4 : ∀ i x, kT[i]? = some x → w4.cell? ⟨gk, i, none⟩ = some (.int .u32 (x.toNat : Int)) := fun i x h => (hb4.cell (p := ⟨gk, i, none⟩) hg4).trans (hks i x h)
      have hgk4 : gk < w4.heap.size := Nat.lt_of_lt_of_le hg4 hb4.size
      have hn4 := hA4.inside
      clear hA3 hB3 hS3 hks hb4 hg4
      have hbL := bytesOf_length t
      have hb8 := padL_bytes _ (bytesOf_bytes t)
      obtain ⟨q, hq, hq9⟩ := padL_length (bytesOf t)
      obtain ⟨P, hP⟩ : ∃ P, padL (bytesOf t) = P := ⟨_, rfl⟩
      have hsum := Lib.hid (show sumL (bytesOf t) = bytesS (blksS P q) by
        unfold sumL sumS
        rw [hP]
        congr 2
        rw [← hP]
        omega)
      rw [hP] at hM hb8 hq
      clear hP
      have hbv := hM.is
      have hcm := hM.most
      have hcf := hM.fits
      rw [List.length_map, hq] at hbv hcf
      subst hbv
      obtain ⟨PL, hPL⟩ : ∃ PL, 64 * q = PL := ⟨_, rfl⟩
      rw [hPL] at hcf hq9 hM ⊢
      have hPLb : PL < 910000 := by omega
      replace hq := Lib.hid (hq.trans hPL)
      replace hPL := Lib.hid hPL
      replace hS4 := Lib.hid (show AtL w4 (n + 1) 40 (stL (blksS P 0)) from hS4)
      replace hA4 := Lib.hid hA4
      replace hB4 := Lib.hid hB4
      replace hM := Lib.hid hM
      replace hks4 := Lib.hid hks4
      clear hbL hq9
      go_wp2_with fail
      go_loopw [8] (fun c wr => ∃ j I : Nat, c = .int .i64 (I : Int) ∧ Hid (I = 64 * j) ∧ I ≤ PL ∧ Hid (AtL wr (n + 1) 40 (stL (blksS P j))) ∧ Hid (w4.grownBy wr (some (n + 1))))
        (fun c _ => PL - (intOf c).toNat)
      case atStart => exact ⟨0, 0, rfl, Lib.hid rfl, Nat.zero_le _, hS4, Lib.hid (World.grownBy.refl _ _)⟩
      case round =>
        clear hS4
        obtain ⟨wj, hwj⟩ : ∃ wj, wj = wr := ⟨_, rfl⟩
        subst hwj
        obtain ⟨j, I, rfl, hI, hIP, hS, hG⟩ := hrel
        by_cases hlt : I < PL
        · have hii : (I : Int) < (PL : Int) := by omega
          have hI64 : I + 64 ≤ PL := by have := hPL.out; have := hI.out; omega
          obtain ⟨x, hx⟩ : ∃ x, blksS P j = x := ⟨_, rfl⟩
          rw [hx] at hS
          have hnx := Lib.hid (show blksS P (j + 1) = blockS x ((P.drop I).take 64) by rw [← hx, hI.out]; rfl)
          clear hx
          have hMj : RowM wj w3.heap.size (.slice (some ⟨gb, 0, none⟩) PL cb) (P.map u8V) gb cb := hM.out.same (hG.out.block gb hM.out.inside (by simp; omega)) hG.out.size
          have hkj : ∀ i x, kT[i]? = some x → wj.cell? ⟨gk, i, none⟩ = some (.int .u32 (x.toNat : Int)) := fun i x h => (cell_same (hG.out.block gk hgk4 (by simp; omega))).trans (hks4.out i x h)
          have hgj : gk < wj.heap.size := Nat.lt_of_lt_of_le hgk4 hG.out.size
          have hcall := fun d os => Calls.regrown_of (block_any x ((P.drop I).take 64) (by rw [List.length_take, List.length_drop, hq.out]; omega) (fun y hy => hb8 y (List.mem_of_mem_drop (List.mem_of_mem_take hy))) (some ⟨gb, I, none⟩) (cb - I) gk ck (grow (redrawn wj d) os)
            ((hMj.on (below_regrown wj d os)).part I (cb - I) (by omega) (by omega) (by rw [hq.out]; exact hI64)) (Nat.lt_of_lt_of_le hgj (below_regrown wj d os).size) (fun i x h => ((below_regrown wj d os).cell (p := ⟨gk, i, none⟩) hgj).trans (hkj i x h)))
          have k0 := cell_regrown (hS.out.get (i := 0) rfl)
          have k1 := cell_regrown (hS.out.get (i := 1) rfl)
          have k2 := cell_regrown (hS.out.get (i := 2) rfl)
          have k3 := cell_regrown (hS.out.get (i := 3) rfl)
          have k4 := cell_regrown (hS.out.get (i := 4) rfl)
          have k5 := cell_regrown (hS.out.get (i := 5) rfl)
          have k6 := cell_regrown (hS.out.get (i := 6) rfl)
          have k7 := cell_regrown (hS.out.get (i := 7) rfl)
          clear hMj hkj
          go_upto_region 12 with fail
          refine wp_region_below_tail 8 (by kernel_rfl) (by kernel_rfl) (by kernel_rfl) ?_
          simp only [List.take_succ_cons, List.take_zero, List.drop_succ_cons, List.drop_zero]
          repeat (go_big_quiet_step (exact hcall _ _))
          refine wpQuiet_nil ?_
          intro _ hw'
          obtain ⟨⟨dq, osq⟩, hw''⟩ := hw'
          subst hw''
          have hg := below_regrown wj dq osq
          have hS2 := hS.out.on hg
          have hG2 := grown_below hG.out hg
          clear k0 k1 k2 k3 k4 k5 k6 k7 hcall hS hG hg
          generalize grow (redrawn wj dq) osq = wt at *
          obtain ⟨y, hy⟩ : ∃ y, blockS x ((P.drop I).take 64) = y := ⟨_, rfl⟩
          rw [hy] at hnx ⊢
          have hS3 := Lib.hid (hS2.row (stL y))
          have hG3 := Lib.hid (grown_row hG2 (stL y).toArray)
          have h1y := Lib.hid (show (stL y).toArray.all (·.oneCell') = true from Array.all_eq_true_iff_forall_mem.2 fun v hv => stL_one v (by simpa using hv))
          have hIy := Lib.hid (show (Tryd.prog.info? 40).map (·.size) = some (stL y).toArray.size by kernel_rfl)
          clear hG2 hy
          go_wp2_with (refine wpList_store_row rfl 40 _ _ rfl (n + 1) (stL y).toArray rfl rfl 40 (stL x).toArray hS2 hIy.out rfl h1y.out ?_)
          go_roundw
          case rel => exact ⟨j + 1, I + 64, by go_num, Lib.hid (by have := hI.out; omega), hI64, Lib.hid (by rw [hnx.out]; exact hS3.out), hG3⟩
          case measure => simp [intOf]; omega
        · obtain rfl : I = PL := by omega
          have hjq : j = q := by have := hI.out; have := hPL.out; omega
          have hA5 : AtL wj n 23 (padB 32 []) := hA4.out.grown hG.out (by omega)
          have hB5 : Below n w wj := ⟨hG.out.os.trans hB4.out.os, hG.out.tape.trans hB4.out.tape, hG.out.output.trans hB4.out.output, Nat.le_trans hB4.out.size hG.out.size, fun k hk => (hG.out.block k (by omega) (by simp; omega)).trans (hB4.out.block k hk)⟩
          obtain ⟨z, hz⟩ : ∃ z, blksS P q = z := ⟨_, rfl⟩
          rw [hjq, hz] at hS
          rw [hz] at hsum
          obtain ⟨m, hm⟩ : ∃ m, wj.heap.size = m := ⟨_, rfl⟩
          have hnm : n + 1 < m := by have := hS.out.inside; omega
          have hD6 := Lib.hid (show AtL (wj.alloc (.cells (padB 32 []).toArray 23)) m 23 (padB 32 ((bytesS z).take 0)) by rw [← hm]; exact AtL.new wj _ _)
          have hS6 := Lib.hid (hS.out.alloc (.cells (padB 32 []).toArray 23))
          have hA6 := Lib.hid (hA5.alloc (.cells (padB 32 []).toArray 23))
          have hB6 := Lib.hid (hB5.alloc (show n ≤ wj.heap.size by omega) (.cells (padB 32 []).toArray 23))
          have hII : ¬ ((I : Int) < (I : Int)) := by omega
          replace hI := Lib.hid hjq
          clear hlt hIP hjq hS hG hA5 hB5 hz hA4 hB4 hM hks4
          go_upto_region 14 with fail
          generalize hz7 : World.alloc wj _ = w7
          replace hD6 := Lib.hid (show AtL w7 m 23 (padB 32 ((bytesS z).take 0)) by rw [← hz7]; exact hD6.out)
          replace hS6 := Lib.hid (show AtL w7 (n + 1) 40 (stL z) by rw [← hz7]; exact hS6.out)
          replace hA6 := Lib.hid (show AtL w7 n 23 (padB 32 []) by rw [← hz7]; exact hA6.out)
          replace hB6 := Lib.hid (show Below n w w7 by rw [← hz7]; exact hB6.out)
          clear hz7 hm
          go_wp2_with fail
          go_loopw [10] (fun c wr => ∃ i : Nat, c = .int .i64 (i : Int) ∧ i ≤ 32 ∧ Hid (AtL wr m 23 (padB 32 ((bytesS z).take i))) ∧ Hid (AtL wr (n + 1) 40 (stL z)) ∧ Hid (AtL wr n 23 (padB 32 [])) ∧ Hid (Below n w wr))
            (fun c _ => 32 - (intOf c).toNat)
          case atStart => exact ⟨0, rfl, Nat.zero_le _, hD6, hS6, hA6, hB6⟩
          case round =>
            clear hD6 hS6 hA6 hB6
            obtain ⟨wk, hwk⟩ : ∃ wk, wk = wr := ⟨_, rfl⟩
            subst hwk
            obtain ⟨i, rfl, hi32, hD, hS, hA, hB⟩ := hrel
            by_cases hlt : i < 32
            · have hii : (i : Int) < 32 := by omega
              obtain ⟨x, hx, hy⟩ := byte_at z hlt
              have k0 := hS.out.get hx
              obtain ⟨y, hyy⟩ : ∃ y, x.toNat / 2 ^ (8 * (4 - 1 - i % 4)) % 256 = y := ⟨_, rfl⟩
              rw [hyy] at hy
              have e1 : (i : Int).tdiv 4 = ((i / 4 : Nat) : Int) := by rw [Int.tdiv_eq_ediv_of_nonneg (by omega)]; rfl
              have e2 : (i : Int).tmod 4 = ((i % 4 : Nat) : Int) := by rw [Int.tmod_eq_emod_of_nonneg (by omega)]; rfl
              have hq8 : i / 4 < 8 := by omega
              have hr4 : i % 4 < 4 := by omega
              generalize i / 4 = d at *
              generalize i % 4 = r at *
              generalize x.toNat = X at *
              obtain ⟨Q, hQ⟩ : ∃ Q, 8 * (4 - 1 - r) = Q := ⟨_, rfl⟩
              rw [hQ] at hyy
              have e3 : (24 : Int) - 8 * (r : Int) = (Q : Int) := by omega
              have hQ32 : min Q 32 = Q := by omega
              have e4 : (X : Int) / 2 ^ Q % 256 = (y : Int) := by rw [← hyy]; simp
              have hdi : (d : Int) < 8 := by omega
              replace hy := Lib.hid hy
              have c0 := hD.out.get (padB_hole (n := 32) (i := i) (by simp [bytesS_length]; omega) hlt)
              have c1 := hD.out.free i
              have hD2 := hD.out.put i (.int .u8 (y : Int))
              rw [bytes_put hlt hy.out] at hD2
              replace hD2 := Lib.hid hD2
              have hS2 := Lib.hid (hS.out.far (b := m) (by omega) i (.int .u8 (y : Int)))
              have hA2 := Lib.hid (hA.out.far (b := m) (by omega) i (.int .u8 (y : Int)))
              have hB2 := Lib.hid (hB.out.setCell (p := ⟨m, i, none⟩) (by show n ≤ m; omega) (.int .u8 (y : Int)))
              clear hA hS hB hD hyy hQ hx
              go_wp2
              go_roundw
              case rel => exact ⟨i + 1, by go_num, by omega, hD2, hS2, hA2, hB2⟩
              case measure => simp [intOf]; omega
            · obtain rfl : i = 32 := by omega
              clear hlt hi32
              have hL : padB 32 ((bytesS z).take 32) = (bytesS z).map u8V := by rw [padB_all (by simp [bytesS_length]), List.take_of_length_le (by simp [bytesS_length])]
              have hAt : AtL wk m 23 ((bytesS z).map u8V) := by rw [← hL]; exact hD.out
              have hR2 := hA.out.row ((bytesS z).map u8V)
              have hB2 := below_row hB.out (Nat.le_refl n) ((bytesS z).map u8V).toArray
              have hI3 : (Tryd.prog.info? 23).map (·.size) = some 32 := by kernel_rfl
              have hs3 : ((bytesS z).map u8V).toArray.size = 32 := by simp [bytesS_length]
              have ho := Lib.hid (show (padB 32 []).toArray.size = ((bytesS z).map u8V).toArray.size by rw [hs3]; rfl)
              have h1 := Lib.hid (show ((bytesS z).map u8V).toArray.all (·.oneCell') = true from Array.all_eq_true_iff_forall_mem.2 fun v hv => one_u8 v (by simpa using hv))
              have hI' := Lib.hid (show (Tryd.prog.info? 23).map (·.size) = some ((bytesS z).map u8V).toArray.size by rw [hs3]; exact hI3)
              have hRr := hA.out
              clear hL hs3 hI3 hA hS hB hD
              go_wp2_with (first | (refine wpList_load_row rfl 23 _ rfl m rfl 23 ((bytesS z).map u8V).toArray (0, 0) _ hAt Tryd.underlying23 rfl hI'.out ?_) | (refine wpList_store_row rfl 23 _ _ rfl n ((bytesS z).map u8V).toArray rfl rfl 23 (padB 32 []).toArray hRr hI'.out ho.out h1.out ?_))
              refine bodyPost_ret (ret_array rfl rfl hR2 _ Tryd.underlying23 rfl (by have := hI'.out; simpa using this)) rfl ⟨by rw [hsum.out], ?_⟩
              rw [hn.out]
              exact hB2

end Go.Proofs.YtkailfajemeeaaaDoor.Sha

/-
  The state behind a block: the document's block.
-/
import Derived.Test.YtkailfajemeeaaaDoorShaWords
import Derived.Test.YtkailfajemeeaaaDoorShaRound
import Derived.Test.YtkailfajemeeaaaDoorTail
namespace Go.Proofs.YtkailfajemeeaaaDoor.Sha
open Go.RowKit Go.Sort Go.Proofs.YtkailfajemeeaaaDoor.Mem Go.Proofs.YtkailfajemeeaaaDoor.Route Go.Proofs.YtkailfajemeeaaaDoor.Tail
set_option linter.unusedVariables false

theorem rotr_b {x : Wd} {n P : Nat} (hP : (rotr x n).toNat = P) (i : Int) (hi : i = (n : Int)) (hn : n ≤ 32) (w : World) : Calls Tryd.prog 26 #[.int .u32 (x.toNat : Int), .int .u64 i] w fun e w' => e = .returned (.int .u32 (P : Int)) ∧ Below w.heap.size w w' :=
  hi ▸ (rotr_any x n hn w).mono fun _ _ ⟨e1, e2⟩ => ⟨by rw [e1, hP], by rw [e2]; exact Below.refl _ _⟩
/-- A row of words of the call's own, opened. -/
theorem words_row {w : World} {base k : Nat} {u : Value} {ws : List Wd} (h : w.ownsRow base 39 1 u k (ws.map u32V)) (hk : ws.length = k) (h0 : 0 < k) : ∃ g cap, u = .slice (some ⟨g, 0, none⟩) k cap ∧ base ≤ g ∧ g < w.heap.size ∧ ∀ i x, ws[i]? = some x → w.cell? ⟨g, i, none⟩ = some (.int .u32 (x.toNat : Int)) := by
  have hc := fun g hg => World.ownsRow.cells h (g := g) hg
  obtain ⟨hl, ⟨rfl, rfl⟩ | ⟨g, cap, cur, rfl, hb, hg, h1, h2, h3, h4⟩⟩ := h
  · omega
  · refine ⟨g, cap, rfl, hb, (Array.getElem?_eq_some_iff.1 hg).1, fun i x hx => ?_⟩
    have := hc g rfl i (u32V x) (by rw [List.getElem?_map, hx]; rfl)
    have hadd : (⟨g, 0, none⟩ : Addr).add i = ⟨g, i, none⟩ := by unfold Addr.add; split <;> simp_all
    rw [hadd] at this
    exact this

/-- A row that is turned into another one, from the front on. -/
def mixL (a b : List Value) (i : Nat) : List Value := a.take i ++ b.drop i
theorem mix_get {a b : List Value} {i : Nat} (hl : a.length = b.length) (hi : i < b.length) : (mixL a b i)[i]? = b[i]? := by
  unfold mixL
  rw [List.getElem?_append_right (by simp; omega), List.getElem?_drop]
  congr 1
  simp
  omega
theorem mix_set {a b : List Value} {i : Nat} {y : Value} (hl : a.length = b.length) (hi : a[i]? = some y) : (mixL a b i).set i y = mixL a b (i + 1) := by
  have hia := (List.getElem?_eq_some_iff.1 hi).1
  unfold mixL
  rw [List.set_append_right _ _ (by simp; omega), List.take_add_one, hi, show i - (a.take i).length = 0 by simp; omega]
  obtain ⟨c, r, hcr⟩ : ∃ c r, b.drop i = c :: r := by
    match h : b.drop i with
    | [] => simp at h; omega
    | c :: r => exact ⟨c, r, rfl⟩
  have h2 : b.drop (i + 1) = r := by rw [← List.drop_drop, hcr]; rfl
  rw [hcr, h2]
  simp
theorem add_at (s x : St8) {i : Nat} (hi : i < 8) : ∃ X Y Z : Nat, (stL s)[i]? = some (.int .u32 (X : Int)) ∧ (stL x)[i]? = some (.int .u32 (Y : Int)) ∧ ((X : Int) + (Y : Int)) % 4294967296 = (Z : Int) ∧ (stL (addS s x))[i]? = some (.int .u32 (Z : Int)) := by
  match i, hi with
  | 0, _ => exact ⟨_, _, _, rfl, rfl, wd_addm _ _, rfl⟩
  | 1, _ => exact ⟨_, _, _, rfl, rfl, wd_addm _ _, rfl⟩
  | 2, _ => exact ⟨_, _, _, rfl, rfl, wd_addm _ _, rfl⟩
  | 3, _ => exact ⟨_, _, _, rfl, rfl, wd_addm _ _, rfl⟩
  | 4, _ => exact ⟨_, _, _, rfl, rfl, wd_addm _ _, rfl⟩
  | 5, _ => exact ⟨_, _, _, rfl, rfl, wd_addm _ _, rfl⟩
  | 6, _ => exact ⟨_, _, _, rfl, rfl, wd_addm _ _, rfl⟩
  | 7, _ => exact ⟨_, _, _, rfl, rfl, wd_addm _ _, rfl⟩

set_option maxRecDepth 100000 in
set_option maxHeartbeats 4000000 in
theorem block_any (s : St8) (b : List Nat) (hbl : b.length = 64) (hb8 : ∀ x ∈ b, x < 256) (xb : Option Addr) (cb gk ck : Nat) (w : World) (hrow : RowB w.heap.size w (.slice xb 64 cb) 1 (b.map fun p => [u8V p]))
    (hgk : gk < w.heap.size) (hks : ∀ i x, kT[i]? = some x → w.cell? ⟨gk, i, none⟩ = some (.int .u32 (x.toNat : Int))) :
    Calls Tryd.prog 18 #[.agg (stL s).toArray, .slice xb 64 cb, .slice (some ⟨gk, 0, none⟩) 64 ck] w fun e w' => e = .returned (.agg (stL (blockS s b)).toArray) ∧ Below w.heap.size w w' := by
  have hA0 : AtL ((w.alloc (.cells (stL s).toArray 40)).alloc (.cells (padW 8 []).toArray 40)) w.heap.size 40 (stL s) := (AtL.new w _ _).alloc _
  have hR0 : AtL ((w.alloc (.cells (stL s).toArray 40)).alloc (.cells (padW 8 []).toArray 40)) (w.heap.size + 1) 40 (padW 8 []) := by
    have := AtL.new (w.alloc (.cells (stL s).toArray 40)) 40 (padW 8 [])
    rwa [World.size_alloc] at this
  have hB0 : Below w.heap.size w ((w.alloc (.cells (stL s).toArray 40)).alloc (.cells (padW 8 []).toArray 40)) :=
    ((Below.refl _ _).alloc (Nat.le_refl _) _).alloc (by simp) _
  go_enter Tryd.func18, Tryd.ntmps18
  go_upto_region 1 with fail
  generalize hz : World.alloc (World.alloc w _) _ = w1
  replace hA0 : AtL w1 w.heap.size 40 (stL s) := by rw [← hz]; exact hA0
  replace hR0 : AtL w1 (w.heap.size + 1) 40 (padW 8 []) := by rw [← hz]; exact hR0
  replace hB0 : Below w.heap.size w w1 := by rw [← hz]; exact hB0
  clear hz
  have hwd := words_any b hbl hb8 xb cb w1 ((RowB.keep hrow hB0 (Nat.le_refl _)).more hB0.size)
  obtain ⟨n, hn⟩ : ∃ n, w.heap.size = n := ⟨_, rfl⟩
  simp only [hn] at hA0 hR0 hB0 hgk ⊢
  replace hn := Lib.hid hn
  go_wp2_with fail
  refine hwd.mono ?_
  clear hwd
  rintro e w2 ⟨⟨u, rfl, hown⟩, hb2⟩
  obtain ⟨gw, cw, rfl, hgw1, hgw2, hws⟩ := words_row hown (wordsN_len b 64) (by decide)
  replace hks : ∀ i x, kT[i]? = some x → w2.cell? ⟨gk, i, none⟩ = some (.int .u32 (x.toNat : Int)) := fun i x hx =>
    (hb2.cell (p := ⟨gk, i, none⟩) (by have := hA0.inside; show gk < _; omega)).trans ((hB0.cell (p := ⟨gk, i, none⟩) hgk).trans (hks i x hx))
  replace hB0 := hB0.trans (hb2.mono (Nat.le_of_lt hA0.inside))
  replace hA0 := hA0.on hb2
  replace hR0 := hR0.on hb2
  clear hown hb2 hrow
  obtain ⟨m, hm⟩ : ∃ m, w2.heap.size = m := ⟨_, rfl⟩
  have hnm : n + 1 < m := by have := hR0.inside; omega
  have hwm : gw < m := by omega
  have hI : (Tryd.prog.info? 40).map (·.size) = some 8 := by kernel_rfl
  have hI' := Lib.hid (show (Tryd.prog.info? 40).map (·.size) = some (stL s).toArray.size from hI)
  have hX0 : AtL (w2.alloc (.cells (padW 8 []).toArray 40)) m 40 (padW 8 []) := by rw [← hm]; exact AtL.new w2 _ _
  have hX1 := hX0.row (stL s)
  have hY1 : Below m w2 ((w2.alloc (.cells (padW 8 []).toArray 40)).setRow m (stL s).toArray) := below_row ((Below.refl _ _).alloc (by omega) _) (Nat.le_refl _) _
  have h1s := Lib.hid (show (stL s).toArray.all (·.oneCell') = true from Array.all_eq_true_iff_forall_mem.2 fun v hv => stL_one v (by simpa using hv))
  have hm' := Lib.hid hm
  go_wp2_with (first | (refine wpList_load_row rfl 40 _ rfl n rfl 40 (stL s).toArray (0, 0) _ hA0 Tryd.underlying40 rfl hI'.out ?_) | (refine wpList_store_row rfl 40 _ _ rfl m (stL s).toArray (by rw [← hm'.out]; rfl) rfl 40 (padW 8 []).toArray hX0 hI'.out rfl h1s.out ?_))
  generalize hz2 : World.setRow (World.alloc w2 _) m _ = w3
  replace hX1 := Lib.hid (show AtL w3 m 40 (stL s) by rw [← hz2]; exact hX1)
  replace hY1 := Lib.hid (show Below m w2 w3 by rw [← hz2]; exact hY1)
  clear hz2 hX0 hm
  have hsb := Lib.hid (show ∀ W, Below m w2 W → AtL W n 40 (stL s) ∧ AtL W (n + 1) 40 (padW 8 []) ∧ Below n w W from fun W h => ⟨hA0.keep h (by omega), hR0.keep h hnm, hB0.trans (h.mono (by omega))⟩)
  replace hks := Lib.hid hks
  replace hws := Lib.hid hws
  clear hA0 hR0 hB0
  go_loopw [9] (fun i wr => ∃ t : Nat, i = .int .i64 (t : Int) ∧ t ≤ 64 ∧ Hid (AtL wr m 40 (stL (roundsN s kT (wordsN b 64) t))) ∧ Hid (Below m w2 wr))
    (fun i _ => 64 - (intOf i).toNat)
  case atStart => exact ⟨0, rfl, Nat.zero_le _, hX1, hY1⟩
  case round =>
    clear hX1 hY1
    obtain ⟨wi, hwi⟩ : ∃ wi, wi = wr := ⟨_, rfl⟩
    subst hwi
    obtain ⟨t, rfl, ht64, hX, hY⟩ := hrel
    obtain ⟨x, hx⟩ : ∃ x, roundsN s kT (wordsN b 64) t = x := ⟨_, rfl⟩
    rw [hx] at hX
    replace hx := Lib.hid hx
    by_cases hlt : t < 64
    · have hti : (t : Int) < 64 := by omega
      obtain ⟨k, hk⟩ : ∃ k, kT[t]? = some k := ⟨_, List.getElem?_eq_getElem (by rw [show kT.length = 64 by decide +kernel]; exact hlt)⟩
      obtain ⟨v, hv⟩ : ∃ v, (wordsN b 64)[t]? = some v := ⟨_, List.getElem?_eq_getElem (by rw [wordsN_len]; exact hlt)⟩
      have hnx := Lib.hid (show roundsN s kT (wordsN b 64) (t + 1) = round1 x k v by
        rw [show roundsN s kT (wordsN b 64) (t + 1) = round1 (roundsN s kT (wordsN b 64) t) (kT.getD t 0) ((wordsN b 64).getD t 0) from rfl, hx.out]
        simp [List.getD, hk, hv])
      have kk := hks.out t k hk
      have kw := hws.out t v hv
      obtain ⟨P6, P11, P25, Q1, S1, T1, EF, NE, NG, CH, T2, T3, T4, P2, P13, P22, Q2, S0, AB, AC, Q3, BC, MJ, T5, D1, A1, ⟨p6, p11, p25, q1, s1, t1, ef, ne, ng, ch, t2, t3, t4, p2, p13, p22, q2, s0, ab, ac, q3, bc, mj, t5, d1, a1, ra, re⟩⟩ := round_facts x k v
      have r6 := fun W => rotr_b p6 6 rfl (by decide) W
      have r11 := fun W => rotr_b p11 11 rfl (by decide) W
      have r25 := fun W => rotr_b p25 25 rfl (by decide) W
      have r2 := fun W => rotr_b p2 2 rfl (by decide) W
      have r13 := fun W => rotr_b p13 13 rfl (by decide) W
      have r22 := fun W => rotr_b p22 22 rfl (by decide) W
      have hcs : stL (round1 x k v) = [.int .u32 (A1 : Int), .int .u32 (x.a.toNat : Int), .int .u32 (x.b.toNat : Int), .int .u32 (x.c.toNat : Int), .int .u32 (D1 : Int), .int .u32 (x.e.toNat : Int), .int .u32 (x.f.toNat : Int), .int .u32 (x.g.toNat : Int)] := by
        rw [← ra, ← re]
        rfl
      replace hcs := Lib.hid hcs
      have hcx := Lib.hid (show stL x = [.int .u32 (x.a.toNat : Int), .int .u32 (x.b.toNat : Int), .int .u32 (x.c.toNat : Int), .int .u32 (x.d.toNat : Int), .int .u32 (x.e.toNat : Int), .int .u32 (x.f.toNat : Int), .int .u32 (x.g.toNat : Int), .int .u32 (x.h.toNat : Int)] from rfl)
      rw [hcx.out] at hX
      clear ra re p6 p11 p25 p2 p13 p22 hk hv hcx
      generalize x.a.toNat = A at *
      generalize x.b.toNat = B at *
      generalize x.c.toNat = C at *
      generalize x.d.toNat = D at *
      generalize x.e.toNat = E at *
      generalize x.f.toNat = F at *
      generalize x.g.toNat = G at *
      generalize x.h.toNat = H at *
      generalize k.toNat = K at *
      generalize v.toNat = V at *
      have nf : (if IntKind.u32.signed = true then (-1 : Int) else IntKind.u32.max) = 4294967295 := rfl
      have c0 := cell_regrown (hX.out.get (i := 0) rfl)
      have c4 := cell_regrown (hX.out.get (i := 4) rfl)
      go_upto_region 6 with fail
      refine wp_region_quiet_below (by kernel_rfl) (by kernel_rfl) ?_
      repeat (go_big_quiet_step (fail))
      refine wpQuiet_nil ?_
      intro _ hw'
      obtain ⟨⟨dr, osr⟩, hw''⟩ := hw'
      subst hw''
      have hg := below_regrown wi dr osr
      have hX1 := hX.out.on hg
      have hY1 := Lib.hid (hY.out.trans (hg.mono (Nat.le_of_lt hX.out.inside)))
      clear c0 c4 hX hY hg
      generalize grow (redrawn wi dr) osr = wk at *
      have d0 := hX1.get (i := 0) rfl
      have d1' := hX1.get (i := 1) rfl
      have d2 := hX1.get (i := 2) rfl
      have d5 := hX1.get (i := 5) rfl
      have d6 := hX1.get (i := 6) rfl
      have d7 := cell_regrown (hX1.get (i := 7) rfl)
      have kk1 := cell_regrown ((hY1.out.cell (p := ⟨gk, t, none⟩) (by show gk < m; omega)).trans kk)
      have kw1 := cell_regrown ((hY1.out.cell (p := ⟨gw, t, none⟩) hwm).trans kw)
      have c6 := fun d os => Calls.regrown_of (r6 (grow (redrawn wk d) os))
      have c11 := fun d os => Calls.regrown_of (r11 (grow (redrawn wk d) os))
      have c25 := fun d os => Calls.regrown_of (r25 (grow (redrawn wk d) os))
      go_upto_region 9 with fail
      refine wp_region_quiet_below (by kernel_rfl) (by kernel_rfl) ?_
      repeat (go_big_quiet_step (first | with_reducible exact c6 _ _ | with_reducible exact c11 _ _ | with_reducible exact c25 _ _))
      refine wpQuiet_nil ?_
      intro _ hw'
      obtain ⟨⟨dr2, osr2⟩, hw''⟩ := hw'
      subst hw''
      have hg := below_regrown wk dr2 osr2
      have hX2 := hX1.on hg
      have hY2 := Lib.hid (hY1.out.trans (hg.mono (Nat.le_of_lt hX1.inside)))
      clear d0 d1' d2 d5 d6 d7 kk kw kk1 kw1 c6 c11 c25 hX1 hY1 hg r6 r11 r25
      generalize grow (redrawn wk dr2) osr2 = wl at *
      go_wp2_with fail
      refine (r2 _).mono ?_
      rintro e wa ⟨rfl, hba⟩
      go_wp2_with fail
      refine (r13 _).mono ?_
      rintro e wb ⟨rfl, hbb⟩
      go_wp2_with fail
      refine (r22 _).mono ?_
      rintro e wc ⟨rfl, hbc⟩
      have hg2 := (hba.trans (hbb.mono hba.size)).trans (hbc.mono (Nat.le_trans hba.size hbb.size))
      have hY3 := hY2.out.trans (hg2.mono (Nat.le_of_lt hX2.inside))
      have hX3 := hX2.on hg2
      clear r2 r13 r22 hba hbb hbc hg2 hX2 hY2
      have d0 := hX3.get (i := 0) rfl
      have d1' := hX3.get (i := 1) rfl
      have d2 := hX3.get (i := 2) rfl
      have d3 := hX3.get (i := 3) rfl
      have d4 := hX3.get (i := 4) rfl
      have d5 := hX3.get (i := 5) rfl
      have d6 := hX3.get (i := 6) rfl
      have hX4 := hX3.row (stL (round1 x k v))
      have hY4 := below_row hY3 (Nat.le_refl _) (stL (round1 x k v)).toArray
      rw [hcs.out] at hX4 hY4
      have hX3' := Lib.hid hX3
      clear hX3 hY3
      replace hX4 := Lib.hid hX4
      replace hY4 := Lib.hid hY4
      go_wp2_with (first | (refine wpList_store_row rfl 40 _ _ rfl m #[.int .u32 (((T4 : Int) + (T5 : Int)) % 4294967296), .int .u32 (A : Int), .int .u32 (B : Int), .int .u32 (C : Int), .int .u32 (((D : Int) + (T4 : Int)) % 4294967296), .int .u32 (E : Int), .int .u32 (F : Int), .int .u32 (G : Int)] rfl rfl 40 _ hX3'.out hI rfl (by simp [Value.oneCell']) ?_) | (refine wpList_store_row rfl 40 _ _ rfl m #[.int .u32 (A1 : Int), .int .u32 (A : Int), .int .u32 (B : Int), .int .u32 (C : Int), .int .u32 (D1 : Int), .int .u32 (E : Int), .int .u32 (F : Int), .int .u32 (G : Int)] rfl rfl 40 _ hX3'.out hI rfl (by simp [Value.oneCell']) ?_))
      go_roundw
      case rel => exact ⟨t + 1, by go_num, by omega, Lib.hid (by rw [hnx.out, hcs.out]; exact hX4.out), hY4⟩
      case measure => simp [intOf]; omega
    · obtain rfl : t = 64 := by omega
      clear hlt ht64
      have hz : blockS s b = addS s x := by unfold blockS; rw [hx.out]
      obtain ⟨hA, hR, hB⟩ := hsb.out _ hY.out
      replace hz := Lib.hid hz
      have hA0 := Lib.hid (show AtL wi n 40 (mixL (stL (addS s x)) (stL s) 0) from hA)
      replace hR := Lib.hid hR
      replace hB := Lib.hid hB
      clear hA hks hws hsb hx hY
      go_wp2_with fail
      go_loopw [16] (fun c wr => ∃ i : Nat, c = .int .i64 (i : Int) ∧ i ≤ 8 ∧ Hid (AtL wr n 40 (mixL (stL (addS s x)) (stL s) i)) ∧ Hid (AtL wr (n + 1) 40 (padW 8 [])) ∧ Hid (AtL wr m 40 (stL x)) ∧ Hid (Below n w wr))
        (fun c _ => 8 - (intOf c).toNat)
      case atStart => exact ⟨0, rfl, Nat.zero_le _, hA0, hR, hX, hB⟩
      case round =>
        clear hA0 hR hX hB
        obtain ⟨wj, hwj⟩ : ∃ wj, wj = wr := ⟨_, rfl⟩
        subst hwj
        obtain ⟨i, rfl, hi8, hA, hR, hX, hB⟩ := hrel
        by_cases hlt : i < 8
        · have hii : (i : Int) < 8 := by omega
          obtain ⟨X, Y, Z, e1, e2, e3, e4⟩ := add_at s x hlt
          have k1 := cell_regrown (hA.out.get ((mix_get (a := stL (addS s x)) (b := stL s) rfl hlt).trans e1))
          have k2 := cell_regrown (hX.out.get e2)
          replace e4 := Lib.hid e4
          replace e1 := Lib.hid e1
          clear e2
          go_upto_region 15 with fail
          refine wp_region_below_tail 9 (by kernel_rfl) (by kernel_rfl) (by kernel_rfl) ?_
          simp only [List.take_succ_cons, List.take_zero, List.drop_succ_cons, List.drop_zero]
          repeat (go_big_quiet_step (fail))
          refine wpQuiet_nil ?_
          intro _ hw'
          obtain ⟨⟨dq, osq⟩, hw''⟩ := hw'
          subst hw''
          have hg := below_regrown wj dq osq
          have hB2 := hB.out.trans (hg.mono (Nat.le_of_lt hA.out.inside))
          have hA2 := hA.out.on hg
          have hR2 := hR.out.on hg
          have hX2 := hX.out.on hg
          clear hA hR hX hB hg k1 k2
          generalize grow (redrawn wj dq) osq = wt at *
          have c0 := hA2.get ((mix_get (a := stL (addS s x)) (b := stL s) rfl hlt).trans e1.out)
          have c1 := hA2.free i
          have hA3 := hA2.put i (.int .u32 (Z : Int))
          rw [mix_set (a := stL (addS s x)) (b := stL s) rfl e4.out] at hA3
          replace hA3 := Lib.hid hA3
          have hR3 := Lib.hid (hR2.far (b := n) (by omega) i (.int .u32 (Z : Int)))
          have hX3 := Lib.hid (hX2.far (b := n) (by omega) i (.int .u32 (Z : Int)))
          have hB3 := Lib.hid (hB2.setCell (p := ⟨n, i, none⟩) (Nat.le_refl _) (.int .u32 (Z : Int)))
          clear hA2 hR2 hX2 hB2
          go_wp2
          go_roundw
          case rel => exact ⟨i + 1, by go_num, by omega, hA3, hR3, hX3, hB3⟩
          case measure => simp [intOf]; omega
        · obtain rfl : i = 8 := by omega
          clear hlt hi8
          have hAt : AtL wj n 40 (stL (addS s x)) := hA.out
          have hR2 := hR.out.row (stL (addS s x))
          have hB2 := below_row hB.out (show n ≤ n + 1 by omega) (stL (addS s x)).toArray
          have h1z := Lib.hid (show (stL (addS s x)).toArray.all (·.oneCell') = true from Array.all_eq_true_iff_forall_mem.2 fun v hv => stL_one v (by simpa using hv))
          have hIz := Lib.hid (show (Tryd.prog.info? 40).map (·.size) = some (stL (addS s x)).toArray.size from hI)
          have hRr := hR.out
          clear hA hR hB hX
          go_wp2_with (first | (refine wpList_load_row rfl 40 _ rfl n rfl 40 (stL (addS s x)).toArray (0, 0) _ hAt Tryd.underlying40 rfl hIz.out ?_) | (refine wpList_store_row rfl 40 _ _ rfl (n + 1) (stL (addS s x)).toArray rfl rfl 40 (padW 8 []).toArray hRr hIz.out rfl h1z.out ?_))
          refine bodyPost_ret (ret_array rfl rfl hR2 _ Tryd.underlying40 rfl hIz.out) rfl ⟨by rw [hz.out], ?_⟩
          rw [hn.out]
          exact hB2

end Go.Proofs.YtkailfajemeeaaaDoor.Sha

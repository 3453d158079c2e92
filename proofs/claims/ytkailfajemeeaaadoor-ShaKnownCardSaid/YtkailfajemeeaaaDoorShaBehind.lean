/-
  The state behind a block: the program's behind.
-/
import Derived.Test.YtkailfajemeeaaaDoorShaSpread
import Derived.Test.YtkailfajemeeaaaDoorShaRound
namespace Go.Proofs.YtkailfajemeeaaaDoor.Sha
open Go.RowKit Go.Sort Go.Proofs.YtkailfajemeeaaaDoor.Mem Go.Proofs.YtkailfajemeeaaaDoor.Route Go.Proofs.YtkailfajemeeaaaDoor.Tail
set_option linter.unusedVariables false

theorem kT_length : kT.length = 64 := by decide +kernel
theorem index_words (b : List Nat) {t : Nat} (ht : t < 64) {v : Wd} (hv : (wordsN b 64)[t]? = some v) (W : World) : (Instr.index 63 (.agg ((wordsN b 64).map u32V).toArray) (.int .i64 (t : Int))).run Tryd.prog W = .ok (.int .u32 (v.toNat : Int)) W :=
  run_index_arr W _ _ 64 ((wordsN b 64).map u32V) _ .u32 t _ Tryd.underlying63 ht (by rw [List.getElem?_map, hv]; rfl) Tryd.underlying39 (by kernel_rfl)

theorem protr_b {x : Wd} {n P : Nat} (hP : (rotr x n).toNat = P) (i : Int) (hi : i = (n : Int)) (h0 : 0 < n) (hn : n < 32) (w : World) : Calls Tryd.prog 29 #[.int .u32 (x.toNat : Int), .int .i64 i] w fun e w' => e = .returned (.int .u32 (P : Int)) ∧ Below w.heap.size w w' :=
  hi ▸ (protr_any x n h0 hn w).mono fun _ _ ⟨e1, e2⟩ => ⟨by rw [e1, hP], by rw [e2]; exact Below.refl _ _⟩

set_option maxRecDepth 100000 in
set_option maxHeartbeats 4000000 in
theorem behind_any (s : St8) (b : List Nat) (hbl : b.length = 64) (hb8 : ∀ x ∈ b, x < 256) (w : World) (hsg : Sg w) :
    Calls Tryd.prog 20 #[.agg (stL s).toArray, .agg (b.map u8V).toArray] w fun e w' => e = .returned (.agg (stL (blockS s b)).toArray) ∧ Below w.heap.size w w' := by
  have hsp := fun W => spread_any b hbl hb8 W
  go_enter Tryd.func20, Tryd.ntmps20
  go_upto_region 1 with fail
  have hA0 : AtL (((w.alloc (.cells (stL s).toArray 46)).alloc (.cells (b.map u8V).toArray 48)).alloc (.cells (padW 8 []).toArray 46)) w.heap.size 46 (stL s) := ((AtL.new w _ _).alloc _).alloc _
  have hR0 : AtL (((w.alloc (.cells (stL s).toArray 46)).alloc (.cells (b.map u8V).toArray 48)).alloc (.cells (padW 8 []).toArray 46)) (w.heap.size + 1) 48 (b.map u8V) := by
    have := (AtL.new (w.alloc (.cells (stL s).toArray 46)) 48 (b.map u8V)).alloc (.cells (padW 8 []).toArray 46)
    rwa [World.size_alloc] at this
  have hW0 : AtL (((w.alloc (.cells (stL s).toArray 46)).alloc (.cells (b.map u8V).toArray 48)).alloc (.cells (padW 8 []).toArray 46)) (w.heap.size + 1 + 1) 46 (padW 8 []) := by
    have := AtL.new ((w.alloc (.cells (stL s).toArray 46)).alloc (.cells (b.map u8V).toArray 48)) 46 (padW 8 [])
    rwa [World.size_alloc, World.size_alloc] at this
  have hB0 : Below w.heap.size w (((w.alloc (.cells (stL s).toArray 46)).alloc (.cells (b.map u8V).toArray 48)).alloc (.cells (padW 8 []).toArray 46)) :=
    (((Below.refl _ _).alloc (Nat.le_refl _) _).alloc (by simp) _).alloc (by simp; omega) _
  generalize hz : World.alloc (World.alloc (World.alloc w _) _) _ = w1
  replace hA0 : AtL w1 w.heap.size 46 (stL s) := by rw [← hz]; exact hA0
  replace hR0 : AtL w1 (w.heap.size + 1) 48 (b.map u8V) := by rw [← hz]; exact hR0
  replace hW0 : AtL w1 (w.heap.size + 1 + 1) 46 (padW 8 []) := by rw [← hz]; exact hW0
  replace hB0 : Below w.heap.size w w1 := by rw [← hz]; exact hB0
  clear hz
  obtain ⟨n, hn⟩ : ∃ n, w.heap.size = n := ⟨_, rfl⟩
  have hgh := hsg.posh
  have hgk := hsg.posk
  simp only [hn] at hA0 hR0 hW0 hB0 hgh hgk ⊢
  replace hn := Lib.hid hn
  have k0 := cell_regrown (hA0.get (i := 0) rfl)
  have k1 := cell_regrown (hA0.get (i := 1) rfl)
  have k2 := cell_regrown (hA0.get (i := 2) rfl)
  have k3 := cell_regrown (hA0.get (i := 3) rfl)
  have k4 := cell_regrown (hA0.get (i := 4) rfl)
  have k5 := cell_regrown (hA0.get (i := 5) rfl)
  have k6 := cell_regrown (hA0.get (i := 6) rfl)
  have k7 := cell_regrown (hA0.get (i := 7) rfl)
  refine wp_region_quiet_below (by kernel_rfl) (by kernel_rfl) ?_
  repeat (go_big_quiet_step (fail))
  refine wpQuiet_nil ?_
  intro _ hw'
  obtain ⟨⟨dr, osr⟩, hw''⟩ := hw'
  subst hw''
  have hg := below_regrown w1 dr osr
  replace hB0 := hB0.trans (hg.mono (Nat.le_of_lt hA0.inside))
  replace hA0 := hA0.on hg
  replace hR0 := hR0.on hg
  replace hW0 := hW0.on hg
  clear k0 k1 k2 k3 k4 k5 k6 k7 hg
  generalize grow (redrawn w1 dr) osr = w2 at *
  have hIb : (Tryd.prog.info? 48).map (·.size) = some (b.map u8V).toArray.size := by
    rw [show (b.map u8V).toArray.size = 64 by simp [hbl]]
    kernel_rfl
  go_wp2_with (refine wpList_load_row rfl 48 _ rfl (n + 1) rfl 48 (b.map u8V).toArray (0, 0) _ hR0 Tryd.underlying48 rfl hIb ?_)
  refine (hsp _).mono ?_
  clear hsp hIb
  rintro e w3 ⟨rfl, hb3⟩
  replace hB0 := Lib.hid (hB0.trans (hb3.mono (Nat.le_of_lt hA0.inside)))
  replace hA0 := Lib.hid (hA0.on hb3)
  replace hW0 := Lib.hid (hW0.on hb3)
  clear hR0 hb3
  replace hsg := Lib.hid hsg
  go_wp2_with fail
  go_loopw [5, 6, 7, 8, 9, 10, 11, 12, 35] (fun a b' c d e f g h i wr => ∃ t : Nat, i = .int .i64 (t : Int) ∧ t ≤ 64 ∧ (∃ x : St8, Hid (roundsN s kT (wordsN b 64) t = x) ∧ a = u32V x.a ∧ b' = u32V x.b ∧ c = u32V x.c ∧ d = u32V x.d ∧ e = u32V x.e ∧ f = u32V x.f ∧ g = u32V x.g ∧ h = u32V x.h) ∧ Hid (AtL wr n 46 (stL s)) ∧ Hid (AtL wr (n + 1 + 1) 46 (padW 8 [])) ∧ Hid (Below n w wr))
    (fun _ _ _ _ _ _ _ _ i _ => 64 - (intOf i).toNat)
  case atStart => exact ⟨0, rfl, Nat.zero_le _, ⟨s, Lib.hid rfl, rfl, rfl, rfl, rfl, rfl, rfl, rfl, rfl⟩, hA0, hW0, hB0⟩
  case round =>
    clear hA0 hW0 hB0
    obtain ⟨wi, hwi⟩ : ∃ wi, wi = wr := ⟨_, rfl⟩
    subst hwi
    obtain ⟨t, rfl, ht64, ⟨x, hx, rfl, rfl, rfl, rfl, rfl, rfl, rfl, rfl⟩, hA, hW, hB⟩ := hrel
    by_cases hlt : t < 64
    · have hti : (t : Int) < 64 := by omega
      obtain ⟨k, hk⟩ : ∃ k, kT[t]? = some k := ⟨_, List.getElem?_eq_getElem (by rw [kT_length]; exact hlt)⟩
      obtain ⟨v, hv⟩ : ∃ v, (wordsN b 64)[t]? = some v := ⟨_, List.getElem?_eq_getElem (by rw [wordsN_len]; exact hlt)⟩
      have hnx := Lib.hid (show roundsN s kT (wordsN b 64) (t + 1) = round1 x k v by
        rw [show roundsN s kT (wordsN b 64) (t + 1) = round1 (roundsN s kT (wordsN b 64) t) (kT.getD t 0) ((wordsN b 64).getD t 0) from rfl, hx.out]
        simp [List.getD, hk, hv])
      have hix := index_words b hlt hv
      have hsg2 := hsg.out.keep hB.out hgh hgk
      have kk := cell_regrown (show wi.cell? ⟨1, t, none⟩ = some (.int .u32 (k.toNat : Int)) from hsg2.ks t k hk)
      obtain ⟨P6, P11, P25, Q1, S1, T1, EF, NE, NG, CH, T2, T3, T4, P2, P13, P22, Q2, S0, AB, AC, Q3, BC, MJ, T5, D1, A1, ⟨p6, p11, p25, q1, s1, t1, ef, ne, ng, ch, t2, t3, t4, p2, p13, p22, q2, s0, ab, ac, q3, bc, mj, t5, d1, a1, ra, re⟩⟩ := round_facts x k v
      have c6 := fun d os => Calls.regrown_of (protr_b p6 6 rfl (by decide) (by decide) (grow (redrawn wi d) os))
      have c11 := fun d os => Calls.regrown_of (protr_b p11 11 rfl (by decide) (by decide) (grow (redrawn wi d) os))
      have c25 := fun d os => Calls.regrown_of (protr_b p25 25 rfl (by decide) (by decide) (grow (redrawn wi d) os))
      have r2 := fun W => protr_b p2 2 rfl (by decide) (by decide) W
      have r13 := fun W => protr_b p13 13 rfl (by decide) (by decide) W
      have r22 := fun W => protr_b p22 22 rfl (by decide) (by decide) W
      have eb : (round1 x k v).b = x.a := rfl
      have ec : (round1 x k v).c = x.b := rfl
      have ed : (round1 x k v).d = x.c := rfl
      have ef' : (round1 x k v).f = x.e := rfl
      have eg : (round1 x k v).g = x.f := rfl
      have eh : (round1 x k v).h = x.g := rfl
      obtain ⟨y, hy⟩ : ∃ y, round1 x k v = y := ⟨_, rfl⟩
      rw [hy] at ra re eb ec ed ef' eg eh hnx
      have hyV := Lib.hid (show u32V y.a = .int .u32 (A1 : Int) ∧ u32V y.b = .int .u32 (x.a.toNat : Int) ∧ u32V y.c = .int .u32 (x.b.toNat : Int) ∧ u32V y.d = .int .u32 (x.c.toNat : Int) ∧ u32V y.e = .int .u32 (D1 : Int) ∧ u32V y.f = .int .u32 (x.e.toNat : Int) ∧ u32V y.g = .int .u32 (x.f.toNat : Int) ∧ u32V y.h = .int .u32 (x.g.toNat : Int) by
        unfold u32V
        rw [ra, re, eb, ec, ed, ef', eg, eh]
        exact ⟨rfl, rfl, rfl, rfl, rfl, rfl, rfl, rfl⟩)
      clear ra re eb ec ed ef' eg eh hy p6 p11 p25 p2 p13 p22 hk hv hsg2
      rw [show u32V x.a = .int .u32 (x.a.toNat : Int) from rfl, show u32V x.b = .int .u32 (x.b.toNat : Int) from rfl, show u32V x.c = .int .u32 (x.c.toNat : Int) from rfl, show u32V x.d = .int .u32 (x.d.toNat : Int) from rfl, show u32V x.e = .int .u32 (x.e.toNat : Int) from rfl, show u32V x.f = .int .u32 (x.f.toNat : Int) from rfl, show u32V x.g = .int .u32 (x.g.toNat : Int) from rfl, show u32V x.h = .int .u32 (x.h.toNat : Int) from rfl]
      generalize x.a.toNat = A at *
      generalize x.b.toNat = B at *
      generalize x.c.toNat = C at *
      generalize x.d.toNat = D at *
      generalize x.e.toNat = E at *
      generalize x.f.toNat = F at *
      generalize x.g.toNat = G at *
      generalize x.h.toNat = H at *
      generalize k.toNat = K at *
      generalize v.toNat = V at *
      clear hx
      have nf : (if IntKind.u32.signed = true then (-1 : Int) else IntKind.u32.max) = 4294967295 := rfl
      go_upto_region 5 with fail
      refine wp_region_quiet_below (by kernel_rfl) (by kernel_rfl) ?_
      repeat (go_big_quiet_step (first | with_reducible exact c6 _ _ | with_reducible exact c11 _ _ | with_reducible exact c25 _ _))
      refine wpQuiet_nil ?_
      intro _ hw'
      obtain ⟨⟨dr, osr⟩, hw''⟩ := hw'
      subst hw''
      have hg := below_regrown wi dr osr
      have hA' := Lib.hid (hA.out.on hg)
      have hW' := Lib.hid (hW.out.on hg)
      have hB' := Lib.hid (hB.out.trans (hg.mono (Nat.le_of_lt hA.out.inside)))
      clear hA hW hB hg kk c6 c11 c25
      generalize grow (redrawn wi dr) osr = wk at *
      go_wp2_with fail
      refine (r2 _).mono ?_
      rintro e wa ⟨rfl, hba⟩
      go_wp2_with fail
      refine (r13 _).mono ?_
      rintro e wb ⟨rfl, hbb⟩
      go_wp2_with fail
      refine (r22 _).mono ?_
      rintro e wc ⟨rfl, hbc⟩
      have hg2 := (hba.trans (hbb.mono hba.size)).trans (hbc.mono (Nat.le_trans hba.size hbb.size))
      replace hB' := Lib.hid (hB'.out.trans (hg2.mono (Nat.le_of_lt hA'.out.inside)))
      replace hA' := Lib.hid (hA'.out.on hg2)
      replace hW' := Lib.hid (hW'.out.on hg2)
      clear r2 r13 r22 hba hbb hbc hg2
      go_wp2
      go_roundw
      case rel => exact ⟨t + 1, by go_num, by omega, ⟨y, hnx, (by rw [hyV.out.1, a1]), hyV.out.2.1.symm, hyV.out.2.2.1.symm, hyV.out.2.2.2.1.symm, (by rw [hyV.out.2.2.2.2.1, d1]), hyV.out.2.2.2.2.2.1.symm, hyV.out.2.2.2.2.2.2.1.symm, hyV.out.2.2.2.2.2.2.2.symm⟩, hA', hW', hB'⟩
      case measure => simp [intOf]; omega
    · obtain rfl : t = 64 := by omega
      clear hlt ht64
      have hbl2 := Lib.hid (show blockS s b = addS s x by unfold blockS; rw [hx.out])
      obtain ⟨z, hz⟩ : ∃ z, addS s x = z := ⟨_, rfl⟩
      have za : ((s.a.toNat : Int) + (x.a.toNat : Int)) % 4294967296 = (z.a.toNat : Int) := by rw [← hz]; exact wd_addm _ _
      have ka : wi.cell? ⟨n, 0, none⟩ = some (.int .u32 (s.a.toNat : Int)) := hA.out.get rfl
      have zb : ((s.b.toNat : Int) + (x.b.toNat : Int)) % 4294967296 = (z.b.toNat : Int) := by rw [← hz]; exact wd_addm _ _
      have kb : wi.cell? ⟨n, 1, none⟩ = some (.int .u32 (s.b.toNat : Int)) := hA.out.get rfl
      have zc : ((s.c.toNat : Int) + (x.c.toNat : Int)) % 4294967296 = (z.c.toNat : Int) := by rw [← hz]; exact wd_addm _ _
      have kc : wi.cell? ⟨n, 2, none⟩ = some (.int .u32 (s.c.toNat : Int)) := hA.out.get rfl
      have zd : ((s.d.toNat : Int) + (x.d.toNat : Int)) % 4294967296 = (z.d.toNat : Int) := by rw [← hz]; exact wd_addm _ _
      have kd : wi.cell? ⟨n, 3, none⟩ = some (.int .u32 (s.d.toNat : Int)) := hA.out.get rfl
      have ze : ((s.e.toNat : Int) + (x.e.toNat : Int)) % 4294967296 = (z.e.toNat : Int) := by rw [← hz]; exact wd_addm _ _
      have ke : wi.cell? ⟨n, 4, none⟩ = some (.int .u32 (s.e.toNat : Int)) := hA.out.get rfl
      have zf : ((s.f.toNat : Int) + (x.f.toNat : Int)) % 4294967296 = (z.f.toNat : Int) := by rw [← hz]; exact wd_addm _ _
      have kf : wi.cell? ⟨n, 5, none⟩ = some (.int .u32 (s.f.toNat : Int)) := hA.out.get rfl
      have zg : ((s.g.toNat : Int) + (x.g.toNat : Int)) % 4294967296 = (z.g.toNat : Int) := by rw [← hz]; exact wd_addm _ _
      have kg : wi.cell? ⟨n, 6, none⟩ = some (.int .u32 (s.g.toNat : Int)) := hA.out.get rfl
      have zh : ((s.h.toNat : Int) + (x.h.toNat : Int)) % 4294967296 = (z.h.toNat : Int) := by rw [← hz]; exact wd_addm _ _
      have kh : wi.cell? ⟨n, 7, none⟩ = some (.int .u32 (s.h.toNat : Int)) := hA.out.get rfl
      rw [hz] at hbl2
      have hzV := Lib.hid (show #[.int .u32 (z.a.toNat : Int), .int .u32 (z.b.toNat : Int), .int .u32 (z.c.toNat : Int), .int .u32 (z.d.toNat : Int), .int .u32 (z.e.toNat : Int), .int .u32 (z.f.toNat : Int), .int .u32 (z.g.toNat : Int), .int .u32 (z.h.toNat : Int)] = (stL z).toArray from rfl)
      clear hz hx
      rw [show u32V x.a = .int .u32 (x.a.toNat : Int) from rfl, show u32V x.b = .int .u32 (x.b.toNat : Int) from rfl, show u32V x.c = .int .u32 (x.c.toNat : Int) from rfl, show u32V x.d = .int .u32 (x.d.toNat : Int) from rfl, show u32V x.e = .int .u32 (x.e.toNat : Int) from rfl, show u32V x.f = .int .u32 (x.f.toNat : Int) from rfl, show u32V x.g = .int .u32 (x.g.toNat : Int) from rfl, show u32V x.h = .int .u32 (x.h.toNat : Int) from rfl]
      generalize s.a.toNat = Xa at *
      generalize x.a.toNat = Ya at *
      generalize z.a.toNat = Za at *
      generalize s.b.toNat = Xb at *
      generalize x.b.toNat = Yb at *
      generalize z.b.toNat = Zb at *
      generalize s.c.toNat = Xc at *
      generalize x.c.toNat = Yc at *
      generalize z.c.toNat = Zc at *
      generalize s.d.toNat = Xd at *
      generalize x.d.toNat = Yd at *
      generalize z.d.toNat = Zd at *
      generalize s.e.toNat = Xe at *
      generalize x.e.toNat = Ye at *
      generalize z.e.toNat = Ze at *
      generalize s.f.toNat = Xf at *
      generalize x.f.toNat = Yf at *
      generalize z.f.toNat = Zf at *
      generalize s.g.toNat = Xg at *
      generalize x.g.toNat = Yg at *
      generalize z.g.toNat = Zg at *
      generalize s.h.toNat = Xh at *
      generalize x.h.toNat = Yh at *
      generalize z.h.toNat = Zh at *
      have hWr := hW.out
      have hI : (Tryd.prog.info? 46).map (·.size) = some 8 := by kernel_rfl
      have hR2 := hWr.row (stL z)
      have hB2 := below_row hB.out (show n ≤ n + 1 + 1 by omega) (stL z).toArray
      rw [← hzV.out] at hR2 hB2
      clear hA hB hW
      go_wp2_with (refine wpList_store_row rfl 46 _ _ rfl (n + 1 + 1) #[.int .u32 (Za : Int), .int .u32 (Zb : Int), .int .u32 (Zc : Int), .int .u32 (Zd : Int), .int .u32 (Ze : Int), .int .u32 (Zf : Int), .int .u32 (Zg : Int), .int .u32 (Zh : Int)] rfl rfl 46 (padW 8 []).toArray hWr hI rfl (by simp [Value.oneCell']) ?_)
      rw [hzV.out] at hR2 hB2
      rw [hzV.out]
      refine bodyPost_ret (ret_array rfl rfl hR2 _ Tryd.underlying46 rfl hI) rfl ⟨by rw [hbl2.out], ?_⟩
      rw [hn.out]
      exact hB2

end Go.Proofs.YtkailfajemeeaaaDoor.Sha

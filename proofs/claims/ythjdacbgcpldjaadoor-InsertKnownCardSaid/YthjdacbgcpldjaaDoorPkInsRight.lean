import Derived.Test.YthjdacbgcpldjaaDoorPkInsRightMath
import Derived.Test.YthjdacbgcpldjaaDoorPkInsSums

/-
  InsertRight returns true, whatever the draft, the numbers and memory are. Generated: InsRight.gen.py.
-/
namespace Go.Proofs.YthjdacbgcpldjaaDoor.Ins
open Go.RowKit Go.Sort Go.Shelf Go.Proofs.YthjdacbgcpldjaaDoor.Mem Go.Proofs.YthjdacbgcpldjaaDoor.Route Go.Proofs.YthjdacbgcpldjaaDoor.When Go.Proofs.YthjdacbgcpldjaaDoor.Load Go.Proofs.YthjdacbgcpldjaaDoor.Feas
set_option linter.unusedVariables false

theorem noR_wo (r : Int) (l : List (Int × Int)) : noR r (woL r l) = true := by
  rw [noR_iff]
  intro s hs
  have : s ∈ l ∧ s.1 ≠ r := by simpa [woL] using hs
  exact this.2
theorem dr_more {v : Vh} {l : List (Int × Int)} {t : List Rq} {r i j : Int} (h : Feas.Dr v l t) (hm : mayW l r i j = true) (hr : r < t.length) (hl : l.length ≤ 14) : Feas.Dr v (moreL l r i j) t :=
  ⟨h.hv, h.ht, isR_with hm h.hl, by rw [moreL_length hm]; omega, fun s hs => by
    unfold moreL withL at hs
    simp only [List.mem_append, List.mem_cons] at hs
    rcases hs with hs | rfl | hs | rfl | hs
    · exact h.hr s (List.mem_of_mem_take hs)
    · exact hr
    · exact h.hr s (List.mem_of_mem_take (List.mem_of_mem_drop hs))
    · exact hr
    · exact h.hr s (List.mem_of_mem_drop hs)⟩
theorem veh_cap {v : Vh} (h : v.chk = 0) {m : Int} (hm : 0 ≤ m ∧ m < 40) : Vh.chk ⟨v.hx, v.hy, 1 + m, v.st, v.en⟩ = 0 := by
  unfold Vh.chk at *
  rw [Order.veh_iff, Place.mayB_iff] at h
  dsimp only
  rw [Order.veh_iff, Place.mayB_iff]
  omega
/-- Places below a row's length, by two bytes. -/
theorem places_of {N : Nat} {a b : Int} (ha : 0 ≤ a) (hb : 0 ≤ b) : ∃ I J : Nat, a.tmod ((N : Int) + 1) = I ∧ I ≤ N ∧ b.tmod ((N : Int) + 1 - I) = J ∧ I + J ≤ N := by
  have h1 := Int.emod_nonneg a (show (N : Int) + 1 ≠ 0 by omega)
  have h2 := Int.emod_lt_of_pos a (show (0 : Int) < (N : Int) + 1 by omega)
  obtain ⟨I, hI⟩ : ∃ I : Nat, a % ((N : Int) + 1) = I := ⟨(a % ((N : Int) + 1)).toNat, by omega⟩
  have h3 := Int.emod_nonneg b (show (N : Int) + 1 - I ≠ 0 by omega)
  have h4 := Int.emod_lt_of_pos b (show (0 : Int) < (N : Int) + 1 - I by omega)
  obtain ⟨J, hJ⟩ : ∃ J : Nat, b % ((N : Int) + 1 - I) = J := ⟨(b % ((N : Int) + 1 - I)).toNat, by omega⟩
  exact ⟨I, J, by rw [Int.tmod_eq_emod_of_nonneg ha, hI], by omega, by rw [Int.tmod_eq_emod_of_nonneg hb, hJ], by omega⟩
theorem rise_none {v : Vh} {l : List (Int × Int)} {t : List Rq} {r i j : Int} (h : r < 0) : riseE v l t r i j = 8 ∧ riseV v l t r i j = 0 := by
  have h1 : withE v l t r i j = 8 := withE_req (by simp [inT]; omega)
  have h2 : riseE v l t r i j = 8 := by rw [riseE_with (by rw [h1]; decide), h1]
  exact ⟨h2, riseV_no (by rw [h2]; decide)⟩

/-- What the law holds: the vehicle, the route, the requests. -/
structure RtAt (w : World) (gv : Nat) (v : Vh) (vl vt : Value) (l : List (Int × Int)) (t : List Rq) (W : World) : Prop where
  v : At W gv 28 #[.int .i64 v.hx, .int .i64 v.hy, .int .i64 v.cp, .int .i64 v.st, .int .i64 v.en]
  l : Row W.heap.size W vl l
  t : Rqs W.heap.size W vt t
  sg : Sg W
  b : Below w.heap.size w W
theorem RtAt.on {w W W' : World} {gv : Nat} {v : Vh} {vl vt : Value} {l : List (Int × Int)} {t : List Rq} (h : RtAt w gv v vl vt l t W) (hb : Below W.heap.size W W') : RtAt w gv v vl vt l t W' :=
  ⟨h.v.keep hb h.v.inside, h.l.on hb, h.t.on hb, h.sg.on hb, h.b.trans (hb.mono h.b.size)⟩

set_option maxRecDepth 100000 in
set_option maxHeartbeats 8000000 in
theorem insertRight_any (xb : Option Addr) (Nb cb : Nat) (bs : List Int) (a b c A B C : Int) (hA : 0 ≤ A ∧ A < 256) (hBb : 0 ≤ B ∧ B < 256) (hCb : 0 ≤ C ∧ C < 256) (w : World) (hsg : Sg w) (hrow : RowB w.heap.size w (.slice xb Nb cb) 1 (bs.map byV)) (hby : ∀ x ∈ bs, 0 ≤ x ∧ x < 256) (ha : 0 ≤ a ∧ a < 256) (hb : 0 ≤ b ∧ b < 256) :
    Calls Tryd.prog 6 #[.agg #[.slice xb Nb cb, .int .u8 a, .int .u8 b, .int .i64 c], .int .u8 A, .agg #[.int .u8 B, .int .u8 C]] w fun e w' => e = .returned (.bool true) ∧ Below w.heap.size w w' := by
  obtain ⟨q, hq⟩ : ∃ q, w.heap.size = q := ⟨_, rfl⟩
  obtain ⟨w0, hw0⟩ : ∃ w0, (w.alloc (.cells #[.slice xb Nb cb, .int .u8 a, .int .u8 b, .int .i64 c] 24)).alloc (.cells #[.int .u8 B, .int .u8 C] 43) = w0 := ⟨_, rfl⟩
  have hB0 : Below w.heap.size w w0 := by rw [← hw0]; exact ((Below.refl _ _).alloc (Nat.le_refl _) _).alloc (by simp) _
  have hD0 : At w0 q 24 #[.slice xb Nb cb, .int .u8 a, .int .u8 b, .int .i64 c] := by rw [← hw0]; exact (At.new_ _ _ _ hq.symm).alloc _
  have hO0 : At w0 (q + 1) 43 #[.int .u8 B, .int .u8 C] := by rw [← hw0]; exact At.new_ _ _ _ (by simp [hq])
  have hsg0 := hsg.on hB0
  have hw0' := Lib.hid hw0
  have hq' := Lib.hid hq
  have hrow0 := RowB.on hrow hB0
  clear hrow hw0 hq hsg
  go_enter Tryd.func6, Tryd.ntmps6
  go_upto_region 1 with fail
  simp only [hq'.out]
  rw [hw0'.out]
  go_wp2_with fail
  refine (works_any w0 hsg0).mono ?_
  rintro e w1 ⟨rfl, hb1⟩
  have hD1 := hD0.keep hb1 hD0.inside
  have hO1 := hO0.keep hb1 hO0.inside
  have hB1 := hB0.trans (hb1.mono hB0.size)
  have hsg1 := hsg0.on hb1
  have hc := case_any xb Nb cb bs a b c w1 (RowB.on hrow0 hb1) hby ha hb
  have d0 := hD1.cell 0
  have d1 := hD1.cell 1
  have d2 := hD1.cell 2
  have d3 := hD1.cell 3
  simp at d0 d1 d2 d3
  have hs1 := hD1.inside
  clear hw0' hD0 hO0 hB0 hsg0 hrow0 hb1 hD1 hby ha hb
  go_wp2_with fail
  refine hc.mono ?_
  clear hc d0 d1 d2 d3
  rintro e w2 ⟨⟨v0, ul, ut, l0, t, rfl, hdv, hL2, hfn, hl12, hT2, ht6, hdt⟩, hb2⟩
  obtain ⟨r, hr⟩ : ∃ r : Int, (t.length : Int) - 1 = r := ⟨_, rfl⟩
  rw [hr] at hL2 ⊢
  have hDr0 := (dr_of hdv.1 hfn hl12 hdt).less r
  have hnum : Nums (woL r l0) := nums_small0 (small_wo hfn.1 _)
  have hlen : (woL r l0).length ≤ 12 := Nat.le_trans (wo_length _ _) hl12
  have hnor := noR_wo r l0
  obtain ⟨l, hl⟩ : ∃ l, woL r l0 = l := ⟨_, rfl⟩
  rw [hl] at hL2 hDr0 hnum hlen hnor
  obtain ⟨p, hp⟩ : ∃ p, w2.heap.size = p := ⟨_, rfl⟩
  obtain ⟨m, hm⟩ : ∃ m, A % 40 = m := ⟨_, rfl⟩
  have hm1 : 0 ≤ m := by omega
  have hm2 : m < 40 := by omega
  have hAr : A.tmod 40 = m := by rw [Int.tmod_eq_emod_of_nonneg hA.1, hm]
  obtain ⟨v, hv⟩ : ∃ v : Vh, (⟨v0.hx, v0.hy, 1 + m, v0.st, v0.en⟩ : Vh) = v := ⟨_, rfl⟩
  have hDr : Feas.Dr v l t := by rw [← hv]; exact ⟨veh_cap hdv.1 ⟨hm1, hm2⟩, hDr0.ht, hDr0.hl, hDr0.hn, hDr0.hr⟩
  obtain ⟨w3, hw3⟩ : ∃ w3, w2.alloc (.cells #[.int .i64 v0.hx, .int .i64 v0.hy, .int .i64 (1 + m), .int .i64 v0.st, .int .i64 v0.en] 28) = w3 := ⟨_, rfl⟩
  have hV3 : At w3 p 28 #[.int .i64 v.hx, .int .i64 v.hy, .int .i64 v.cp, .int .i64 v.st, .int .i64 v.en] := by rw [← hw3, ← hv]; exact At.new_ _ _ _ hp.symm
  have hb3 : Below w2.heap.size w2 w3 := by rw [← hw3]; exact (Below.refl _ _).alloc (Nat.le_refl _) _
  have hO2 := hO1.keep hb2 hO1.inside
  have hO3 := hO2.keep hb3 hO2.inside
  have hS3 : Hid (RtAt w p v ul ut l t w3) := Lib.hid ⟨hV3, hL2.on hb3, hT2.on hb3, (hsg1.on hb2).on hb3, (hB1.trans (hb2.mono hB1.size)).trans (hb3.mono (Nat.le_trans hB1.size hb2.size))⟩
  have hr6 : -1 ≤ r ∧ r ≤ 5 := by omega
  have hrt : r < t.length := by omega
  obtain ⟨xl, N, cl, rfl, hN, -, hlc1, hlc2⟩ := hL2.opened
  obtain ⟨xt, Nt, ct, rfl, hNt0, htc1, htc2, -⟩ := hT2.opened
  have htm : t.length ≤ maxLen := by omega
  have htm' := Lib.hid htm
  have hw3' := Lib.hid hw3
  have hp' := Lib.hid hp
  have hDr' := Lib.hid hDr
  have hnum' := Lib.hid hnum
  have hlen' := Lib.hid hlen
  have hnor' := Lib.hid hnor
  have hrt' := Lib.hid hrt
  rw [hN.out] at hlen
  have o0 := hO3.cell 0
  have o1 := hO3.cell 1
  simp at o0 o1
  have hOi := hO3.inside
  obtain ⟨I, J, hI1, hI2, hJ1, hJ2⟩ := places_of (N := N) hBb.1 hCb.1
  have hJz : (N : Int) + 1 - I ≠ 0 := by omega
  have hNz : (N : Int) + 1 ≠ 0 := by omega
  clear hL2 hT2 hO1 hO2 hO3 hB1 hsg1 hb2 hV3 hb3 hw3 hp hDr hDr0 hnum hnor hdv hfn hdt ht6 hNt0 hs1 hr hl hl12 hv hm htm hrt hlen' l0
  go_upto_region 5 with fail
  simp only [hp'.out]
  rw [hw3'.out]
  clear hAr hm1 hm2 hw3' hp'
  have hRi := Rise_any v _ _ l t (by rw [hN.out]; omega) hnum'.out r I ((I : Int) + J) w3 hS3.out.sg hS3.out.l hS3.out.t
  obtain ⟨R, hR⟩ : ∃ R, riseV v l t r I ((I : Int) + J) = R := ⟨_, rfl⟩
  obtain ⟨E, hE⟩ : ∃ E, riseE v l t r I ((I : Int) + J) = E := ⟨_, rfl⟩
  rw [hR, hE] at hRi
  have hR' := Lib.hid hR
  have hE' := Lib.hid hE
  clear hR hE
  have hVc := hS3.out.v
  have p0 := hVc.cell 0
  have p1 := hVc.cell 1
  have p2 := hVc.cell 2
  have p3 := hVc.cell 3
  have p4 := hVc.cell 4
  simp at p0 p1 p2 p3 p4
  have hVi := hVc.inside
  clear hVc
  go_wp2_with fail
  refine hRi.mono ?_
  clear hRi p0 p1 p2 p3 p4 hVi o0 o1 hI1 hJ1
  rintro e w4 ⟨rfl, hb4⟩
  have hS4 := Lib.hid (hS3.out.on hb4)
  clear hb4 hS3 hOi
  by_cases hneg : r < 0
  · obtain ⟨h1, h2⟩ := rise_none (v := v) (l := l) (t := t) (i := I) (j := (I : Int) + J) hneg
    rw [hE'.out] at h1
    rw [hR'.out] at h2
    subst h1
    subst h2
    clear hE' hR'
    go_wp2
    go_ret
    exact ⟨rfl, hS4.out.b⟩
  have hw : mayW l r I ((I : Int) + J) = true := mayW_iff.2 ⟨by omega, by omega, by rw [hN.out]; omega, by omega, by rw [hN.out]; omega, hnor'.out⟩
  have hin : inT t r = true := inT_iff.2 ⟨by omega, hrt'.out⟩
  have hDm : Feas.Dr v (moreL l r I ((I : Int) + J)) t := dr_more hDr'.out hw hrt'.out (by rw [hN.out]; omega)
  have hiff := rise_iff hDm hw hin (by rw [hN.out]; omega)
  rw [hE'.out] at hiff
  have hnm : Nums (moreL l r I ((I : Int) + J)) := moreL_nums hnum'.out (i64_of htm'.out hin)
  have hml : (moreL l r I ((I : Int) + J)).length = N + 2 := by rw [moreL_length hw, hN.out]
  have hWi := With_any _ l r I ((I : Int) + J) (by rw [hN.out]; omega) w4 hS4.out.l
  rw [hw, withV_more hw] at hWi
  have hw' := Lib.hid hw
  obtain ⟨mo, hmo⟩ : ∃ mo, moreL l r I ((I : Int) + J) = mo := ⟨_, rfl⟩
  rw [hmo] at hWi hDm hiff hnm hml
  have hmo' := Lib.hid hmo
  have hDm' := Lib.hid hDm
  have hnm' := Lib.hid hnm
  have hml' := Lib.hid hml
  have hiff' := Lib.hid hiff
  clear hw hin hDm hiff hnm hml hmo
  have hneg0 : ¬ r < 0 := hneg
  go_wp2_with fail
  refine hWi.mono ?_
  clear hWi
  rintro e w5 ⟨⟨um, rfl, hm5, -⟩, hb5⟩
  have hS5 := Lib.hid (hS4.out.on hb5)
  obtain ⟨xm, M, cm, rfl, hM, -, hmc1, hmc2⟩ := hm5.opened
  have hm5' := Lib.hid hm5
  clear hb5 hS4 hm5
  have hCk := Check_any v _ _ mo t (by rw [hml'.out]; omega) hnm'.out w5 hm5'.out hS5.out.t
  have hVc := hS5.out.v
  have p0 := hVc.cell 0
  have p1 := hVc.cell 1
  have p2 := hVc.cell 2
  have p3 := hVc.cell 3
  have p4 := hVc.cell 4
  simp at p0 p1 p2 p3 p4
  have hVi := hVc.inside
  clear hVc
  go_wp2_with fail
  refine hCk.mono ?_
  clear hCk p0 p1 p2 p3 p4 hVi
  rintro e w6 ⟨⟨u6, rfl, hu6⟩, hb6⟩
  have hS6 := Lib.hid (hS5.out.on hb6)
  have hm6 := Lib.hid (hm5'.out.on hb6)
  clear hb6 hS5 hm5'
  rcases hu6 with ⟨hf, rfl⟩ | ⟨hf, qf, rfl, hqf⟩
  case inr =>
    have hE0 : E ≠ 0 := fun e => hf (hiff'.out.1 e)
    have hR0 : R = 0 := by rw [← hR'.out]; exact riseV_no (by rw [hE'.out]; exact hE0)
    subst hR0
    have he0 : (E == 0) = false := by simpa using hE0
    have he1 : (E != 0) = true := by simpa using hE0
    clear hqf hf hE0 hE' hR'
    go_wp2
    go_ret
    exact ⟨rfl, hS6.out.b⟩
  have hE0 : E = 0 := hiff'.out.2 hf
  subst hE0
  have hf' := Lib.hid hf
  have hrz := riseE_zero hE'.out
  have hwz := withE_zero hrz.1
  have hT1 := Times_all v _ _ l t (by rw [hN.out]; omega) hnum'.out w6 hS6.out.l hS6.out.t
  rw [hwz.2.1] at hT1
  obtain ⟨H1, hH1⟩ : ∃ H, homeT v l t = H := ⟨_, rfl⟩
  obtain ⟨H2, hH2⟩ : ∃ H, homeT v mo t = H := ⟨_, rfl⟩
  rw [hH1] at hT1
  have hHb1 : 0 ≤ H1 ∧ H1 ≤ 3000000 := by rw [← hH1]; exact homeT_bd v l t
  have hHb2 : 0 ≤ H2 ∧ H2 ≤ 3000000 := by rw [← hH2]; exact homeT_bd v mo t
  have hwoe : woL r mo = l := by rw [← hmo'.out]; exact wo_with hw'.out
  have herr : errT v mo t = 0 := by rw [← hmo'.out]; exact hrz.2.2
  have hRH : R = H2 - H1 := by rw [← hR'.out, riseV_ok hE'.out, hmo'.out, hH1, hH2]
  have hle : H1 ≤ H2 := by
    have h9 := less_home hDm'.out r herr (by rw [hwoe]; exact hwz.2.1)
    rw [hwoe, hH1, hH2] at h9
    exact h9
  have hway : 0 ≤ detV v l t r I ((I : Int) + J) := by
    rw [detV_ok hrz.1, hmo'.out]
    have h9 := wayO_less hDm'.out r
    rw [hwoe] at h9
    omega
  obtain ⟨D, hD⟩ : ∃ D, detV v l t r I ((I : Int) + J) = D := ⟨_, rfl⟩
  rw [hD] at hway
  have hD' := Lib.hid hD
  have hwz' := Lib.hid hrz.1
  have herr' := Lib.hid herr
  have hwoe' := Lib.hid hwoe
  have hz1' := Lib.hid hwz.2.1
  have hH2' := Lib.hid hH2
  clear hf hrz hwz hH1 hH2 hwoe herr hE' hR' hD hiff'
  subst hRH
  have hVc := hS6.out.v
  have p0 := hVc.cell 0
  have p1 := hVc.cell 1
  have p2 := hVc.cell 2
  have p3 := hVc.cell 3
  have p4 := hVc.cell 4
  simp at p0 p1 p2 p3 p4
  have hVi := hVc.inside
  clear hVc
  go_wp2_with fail
  refine hT1.mono ?_
  clear hT1 p0 p1 p2 p3 p4 hVi
  rintro e w7 ⟨⟨u7, rfl, ha7, -⟩, hb7⟩
  have hS7 := Lib.hid (hS6.out.on hb7)
  have hm7 := Lib.hid (hm6.out.on hb7)
  obtain ⟨xa, Na, ca, rfl, hNa, ha1, ha2, -⟩ := ha7.opened
  have ha7' := Lib.hid ha7
  have hNaN : Na = N := by rw [← hNa, timesL_ok hz1'.out, rowT_length, hN.out]
  subst hNaN
  clear hb7 hS6 hm6 ha7 hNa
  have hT2 := Times_all v _ _ mo t (by rw [hml'.out]; omega) hnm'.out w7 hm7.out hS7.out.t
  rw [herr'.out, hH2'.out] at hT2
  have hVc := hS7.out.v
  have p0 := hVc.cell 0
  have p1 := hVc.cell 1
  have p2 := hVc.cell 2
  have p3 := hVc.cell 3
  have p4 := hVc.cell 4
  simp at p0 p1 p2 p3 p4
  have hVi := hVc.inside
  clear hVc
  go_wp2_with fail
  refine hT2.mono ?_
  clear hT2 p0 p1 p2 p3 p4 hVi
  rintro e w8 ⟨⟨u8, rfl, hb8t, -⟩, hb8⟩
  have hS8 := Lib.hid (hS7.out.on hb8)
  have hm8 := Lib.hid (hm7.out.on hb8)
  have ha8 := Lib.hid (ha7'.out.on hb8)
  obtain ⟨xz, Nz, cz, rfl, hNz0, hz2, hz3, -⟩ := hb8t.opened
  have hb8' := Lib.hid hb8t
  clear hb8 hS7 hm7 ha7' hb8t hNz0
  have hDe := Detour_any v _ _ l t (by rw [hN.out]; omega) hnum'.out r I ((I : Int) + J) w8 hS8.out.l hS8.out.t
  rw [hD'.out, hwz'.out] at hDe
  have hVc := hS8.out.v
  have p0 := hVc.cell 0
  have p1 := hVc.cell 1
  have p2 := hVc.cell 2
  have p3 := hVc.cell 3
  have p4 := hVc.cell 4
  simp at p0 p1 p2 p3 p4
  have hVi := hVc.inside
  clear hVc
  go_wp2_with fail
  refine hDe.mono ?_
  clear hDe p0 p1 p2 p3 p4 hVi
  rintro e w9 ⟨rfl, hb9⟩
  have hS9 := Lib.hid (hS8.out.on hb9)
  have hm9 := Lib.hid (hm8.out.on hb9)
  have ha9 := Lib.hid (ha8.out.on hb9)
  have hb9' := Lib.hid (hb8'.out.on hb9)
  clear hb9 hS8 hm8 ha8 hb8'
  have hSt := stays_any _ _ _ _ l mo (timesL v l t) (timesL v mo t) r I (by rw [hwoe'.out]) (by rw [timesL_ok hz1'.out, rowT_length]) (by rw [timesL_ok herr'.out, rowT_length]) (by rw [hml'.out]; omega)
    (fun n s y hs hy hsr => by
      have hs' : (moreL l r I ((I : Int) + J))[n]? = some s := by rw [hmo'.out]; exact hs
      have hy' : (timesL v (moreL l r I ((I : Int) + J)) t)[n]? = some y := by rw [hmo'.out]; exact hy
      have h9 := stay_one (by rw [hmo'.out]; exact hDm'.out) hw'.out (by rw [hmo'.out]; exact hf'.out) hs' hy' hsr
      rw [hmo'.out] at h9
      exact h9) w9 hS9.out.l ha9.out hm9.out hb9'.out
  go_wp2_with fail
  refine hSt.mono ?_
  clear hSt
  rintro e w10 ⟨rfl, hb10⟩
  have hS10 := Lib.hid (hS9.out.on hb10)
  clear hb10 hS9 hm9 ha9 hb9'
  go_wp2
  go_ret
  exact ⟨rfl, hS10.out.b⟩

end Go.Proofs.YthjdacbgcpldjaaDoor.Ins

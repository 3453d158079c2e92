import Derived.Test.YthjdacbgcpldjaaDoorPkInsMix

/-
  InsertOpen returns true, whatever the draft, the numbers and memory are. Generated: InsOpen.gen.py.
-/
namespace Go.Proofs.YthjdacbgcpldjaaDoor.Ins
open Go.RowKit Go.Sort Go.Shelf Go.Proofs.YthjdacbgcpldjaaDoor.Mem Go.Proofs.YthjdacbgcpldjaaDoor.Route Go.Proofs.YthjdacbgcpldjaaDoor.When Go.Proofs.YthjdacbgcpldjaaDoor.Load Go.Proofs.YthjdacbgcpldjaaDoor.Feas
set_option linter.unusedVariables false

/-- What is laid before the copy. -/
structure OpB (w : World) (go_ : Nat) (B C : Int) (vl vt : Value) (l : List (Int × Int)) (t : List Rq) (W : World) : Prop where
  l : Row W.heap.size W vl l
  t : Rqs W.heap.size W vt t
  o : At W go_ 43 #[.int .u8 B, .int .u8 C]
  sg : Sg W
  b : Below w.heap.size w W
theorem OpB.on {w W W' : World} {g : Nat} {B C : Int} {vl vt : Value} {l : List (Int × Int)} {t : List Rq} (h : OpB w g B C vl vt l t W) (hb : Below W.heap.size W W') : OpB w g B C vl vt l t W' :=
  ⟨h.l.on hb, h.t.on hb, h.o.keep hb h.o.inside, h.sg.on hb, h.b.trans (hb.mono h.b.size)⟩

set_option maxRecDepth 100000 in
set_option maxHeartbeats 8000000 in
theorem insertOpen_any (xb : Option Addr) (Nb cb : Nat) (bs : List Int) (a b c B C : Int) (hBb : 0 ≤ B ∧ B < 256) (hCb : 0 ≤ C ∧ C < 256) (w : World) (hsg : Sg w) (hrow : RowB w.heap.size w (.slice xb Nb cb) 1 (bs.map byV)) (hby : ∀ x ∈ bs, 0 ≤ x ∧ x < 256) (ha : 0 ≤ a ∧ a < 256) (hb : 0 ≤ b ∧ b < 256) :
    Calls Tryd.prog 7 #[.agg #[.slice xb Nb cb, .int .u8 a, .int .u8 b, .int .i64 c], .agg #[.int .u8 B, .int .u8 C]] w fun e w' => e = .returned (.bool true) ∧ Below w.heap.size w w' := by
  obtain ⟨iq, hiq, hq0, hq1, hq2⟩ := info_parts info_request
  obtain ⟨q, hq⟩ : ∃ q, w.heap.size = q := ⟨_, rfl⟩
  obtain ⟨w0, hw0⟩ : ∃ w0, (w.alloc (.cells #[.slice xb Nb cb, .int .u8 a, .int .u8 b, .int .i64 c] 24)).alloc (.cells #[.int .u8 B, .int .u8 C] 43) = w0 := ⟨_, rfl⟩
  have hB0 : Below w.heap.size w w0 := by rw [← hw0]; exact ((Below.refl _ _).alloc (Nat.le_refl _) _).alloc (by simp) _
  have hD0 : At w0 q 24 #[.slice xb Nb cb, .int .u8 a, .int .u8 b, .int .i64 c] := by rw [← hw0]; exact (At.new_ _ _ _ hq.symm).alloc _
  have hO0 : At w0 (q + 1) 43 #[.int .u8 B, .int .u8 C] := by rw [← hw0]; exact At.new_ _ _ _ (by simp [hq])
  have hsg0 := hsg.on hB0
  have hw0' := Lib.hid hw0
  have hq' := Lib.hid hq
  have hrow0 := RowB.on hrow hB0
  clear hrow hw0 hq hsg
  go_enter Tryd.func7, Tryd.ntmps7
  go_upto_region 1 with fail
  simp only [hq'.out]
  rw [hw0'.out]
  go_wp2_with fail
  refine (works_any w0 hsg0).mono ?_
  rintro e w1 ⟨rfl, hb1⟩
  have hD1 := hD0.keep hb1 hD0.inside
  have hO1 := hO0.keep hb1 hO0.inside
  have hB1 := hB0.trans (hb1.mono hB0.size)
  have hsg1 := hsg0.on hb1
  have hc := case_any xb Nb cb bs a b c w1 (RowB.on hrow0 hb1) hby ha hb
  have d0 := hD1.cell 0
  have d1 := hD1.cell 1
  have d2 := hD1.cell 2
  have d3 := hD1.cell 3
  simp at d0 d1 d2 d3
  have hs1 := hD1.inside
  clear hw0' hD0 hO0 hB0 hsg0 hrow0 hb1 hD1 hby ha hb
  go_wp2_with fail
  refine hc.mono ?_
  clear hc d0 d1 d2 d3
  rintro e w2 ⟨⟨v0, ul, ut, l0, t, rfl, hdv, hL2, hfn, hl12, hT2, ht6, hdt⟩, hb2⟩
  obtain ⟨r, hr⟩ : ∃ r : Int, (t.length : Int) - 1 = r := ⟨_, rfl⟩
  rw [hr] at hL2 ⊢
  have hDr0 := (dr_of hdv.1 hfn hl12 hdt).less r
  have hnum : Nums (woL r l0) := nums_small0 (small_wo hfn.1 _)
  have hlen : (woL r l0).length ≤ 12 := Nat.le_trans (wo_length _ _) hl12
  have hnor := noR_wo r l0
  obtain ⟨l, hl⟩ : ∃ l, woL r l0 = l := ⟨_, rfl⟩
  rw [hl] at hL2 hDr0 hnum hlen hnor
  obtain ⟨p, hp⟩ : ∃ p, w2.heap.size = p := ⟨_, rfl⟩
  have hDr : Feas.Dr v0 l t := hDr0
  have hdv' := Lib.hid hdv
  have hdt' := Lib.hid hdt
  obtain ⟨v, hv⟩ : ∃ v : Vh, (⟨v0.hx, v0.hy, 1000, v0.st, 8000⟩ : Vh) = v := ⟨_, rfl⟩
  obtain ⟨w3, hw3⟩ : ∃ w3, w2.alloc (.cells #[.int .i64 v0.hx, .int .i64 v0.hy, .int .i64 v0.cp, .int .i64 v0.st, .int .i64 v0.en] 28) = w3 := ⟨_, rfl⟩
  have hV3 : At w3 p 28 #[.int .i64 v0.hx, .int .i64 v0.hy, .int .i64 v0.cp, .int .i64 v0.st, .int .i64 v0.en] := by rw [← hw3]; exact At.new_ _ _ _ hp.symm
  have hb3 : Below p w2 w3 := by rw [← hw3]; exact (Below.refl _ _).alloc (by omega) _
  have hO2 := hO1.keep hb2 hO1.inside
  have hS2 : Hid (OpB w (q + 1) B C ul ut l t w2) := Lib.hid ⟨hL2, hT2, hO2, hsg1.on hb2, hB1.trans (hb2.mono hB1.size)⟩
  have hr6 : -1 ≤ r ∧ r ≤ 5 := by omega
  obtain ⟨xl, N, cl, rfl, hN, -, hlc1, hlc2⟩ := hL2.opened
  obtain ⟨xt, Nt, ct, rfl, hNt, htc1, htc2, -⟩ := hT2.opened
  have hplt := Lib.hid (rqs_plain hT2)
  have hT3 := Lib.hid ((hT2.on (by rw [hp]; exact hb3) : Rqs w3.heap.size w3 _ t))
  have hw3' := Lib.hid hw3
  have hp' := Lib.hid hp
  have hDr' := Lib.hid hDr
  have hnum' := Lib.hid hnum
  have hlen' := Lib.hid hlen
  have hnor' := Lib.hid hnor
  have hv' := Lib.hid hv
  have hrr := Lib.hid hr
  have hN12 : N ≤ 12 := by have := hlen; rw [hN.out] at this; exact this
  obtain ⟨I, J, hI1, hI2, hJ1, hJ2⟩ := places_of (N := N) hBb.1 hCb.1
  have hJz : (N : Int) + 1 - I ≠ 0 := by omega
  have hNz : (N : Int) + 1 ≠ 0 := by omega
  have hVi3 := hV3.inside
  have ht6N : Nt ≤ 6 := by have := ht6; rw [hNt] at this; exact this
  have hNt' := Lib.hid hNt
  clear hL2 hT2 hO1 hO2 hB1 hsg1 hb2 hw3 hp hDr hDr0 hnum hnor hdv hfn hdt ht6 hs1 hl hl12 hlen hv hNt l0 hr
  by_cases hneg : r < 0
  · have hB3 : Below w.heap.size w w3 := hS2.out.b.trans (hb3.mono (by have := hS2.out.b.size; rw [hp'.out] at this; exact this))
    go_upto_region 4 with fail
    simp only [hp'.out]
    rw [hw3'.out]
    go_wp2
    go_ret
    exact ⟨rfl, hB3⟩
  obtain ⟨R0, rfl⟩ : ∃ n : Nat, r = n := ⟨r.toNat, by omega⟩
  have hNR := Lib.hid (show Nt = R0 + 1 by have h1 := hrr.out; rw [hNt'.out] at h1; omega)
  go_upto_region 4 with fail
  simp only [hp'.out]
  rw [hw3'.out]
  clear hw3' 
  go_upto_region 6 with fail
  go_upto_region 7 with (at_builtin; refine wpList_append_plain rfl _ _ 30 rfl w3.heap.size 60 iq (.agg #[.int .i64 0, .int .i64 0, .int .i64 0, .int .i64 0, .int .i64 0, .int .i64 0, .int .i64 0, .int .i64 0, .int .i64 0, .int .i64 0]) 10 80 Tryd.underlying30 hiq hq0 hq1 hq2 rfl (by decide) _ _ _ rfl (ownsEmptyQ rfl (Nat.le_refl _)) _ Nt ⟨_, _, rfl⟩ hplt.out (flatQ t) rfl (by rw [flatQ_length, hNt'.out]) (fun ad c e j u hj => by simp only [Value.slice.injEq] at e; obtain ⟨rfl, -, rfl⟩ := e; exact rqs_flat (hT3.out.on ((Below.refl _ _).alloc (Nat.le_refl _) _ : Below w3.heap.size w3 _)) j u hj) flatQ_one (by unfold maxLen; omega) (by omega) (by simp) ?_; intro v6 w6 hown6 hgrow6; rw [Nat.zero_add, List.nil_append] at hown6; obtain ⟨x6, c6, rfl, _, _⟩ := owns_slice hown6)
  have hb6 := Lib.hid (((Below.refl w3.heap.size w3).alloc (Nat.le_refl _) (.cells #[] 60)).grown hgrow6 (by simp) (fun r e => by cases e; exact Nat.le_refl _))
  have hho := Lib.hid hown6
  clear hown6 hgrow6 hplt hT3 hiq hq0 hq1 hq2
  go_wp2
  go_loopw [10] (fun i wr => ∃ k : Nat, i = .int .i64 k ∧ k ≤ Nt ∧ wr.ownsRow w3.heap.size 60 10 (.slice x6 Nt c6) Nt (flatQ (mixF openQ t k)) ∧ Below w3.heap.size w3 wr) (fun i _ => Nt - (intOf i).toNat)
  case atStart => exact ⟨0, rfl, Nat.zero_le _, by rw [mixF_zero]; exact hho.out, hb6.out⟩
  case round =>
    obtain ⟨k, rfl, hk, hown, hbw⟩ := hrel
    clear hho hb6
    by_cases hlt : k < Nt
    · have hlti : (k : Int) < Nt := by omega
      obtain ⟨q0, hq0k⟩ : ∃ q0, t[k]? = some q0 := ⟨t[k]'(by rw [hNt'.out]; exact hlt), List.getElem?_eq_getElem _⟩
      obtain ⟨gq, rfl, _⟩ : ∃ gq : Nat, x6 = some ⟨gq, 0, none⟩ ∧ Nt ≤ c6 := by
        rcases owns_parts hown with ⟨_, e0, _⟩ | e0
        · omega
        · exact e0
      have hmg := mixF_get (f := openQ) hq0k
      have hgb := owns_row hown gq rfl
      have hgq := own_lt hown gq rfl
      have hmg' := Lib.hid hmg
      have hown' := Lib.hid hown
      have hbw' := Lib.hid hbw
      have hqk := Lib.hid hq0k
      clear hown hbw hmg hq0k
      have d4 := hown'.out.cellAt (k * 10 + 4) (by omega)
      have d5 := hown'.out.cellAt (k * 10 + 5) (by omega)
      rw [flatQ_get hmg'.out 4 (by decide)] at d4
      rw [flatQ_get hmg'.out 5 (by decide)] at d5
      replace d4 : wr.cell? ⟨gq, k * 10 + 4, none⟩ = some (.int .i64 q0.pe) := d4
      replace d5 : wr.cell? ⟨gq, k * 10 + 5, none⟩ = some (.int .i64 q0.pl) := d5
      have f4 := hown'.out.frozenAt (k * 10 + 4)
      have f5 := hown'.out.frozenAt (k * 10 + 5)
      have hs1 := (hown'.out.stored (k * 10 + 4) (.int .i64 0)).1
      have hs2 := (hs1.stored (k * 10 + 5) (.int .i64 4000)).1
      rw [pick_set hmg'.out] at hs2
      have hb9 := (hbw'.out.setCell (p := ⟨gq, k * 10 + 4, none⟩) (by exact hgb) (.int .i64 0)).setCell (p := ⟨gq, k * 10 + 5, none⟩) (by exact hgb) (.int .i64 4000)
      have hs2' := Lib.hid hs2
      have hb9' := Lib.hid hb9
      clear hs1 hs2 hb9
      go_upto_region 11 with fail
      generalize (wr.setCell ⟨gq, k * 10 + 4, none⟩ (.int .i64 0)).setCell ⟨gq, k * 10 + 5, none⟩ (.int .i64 4000) = w11 at hs2' hb9' ⊢
      clear hown' hbw' d4 d5 f4 f5
      have hmg2 := Lib.hid (set_get (q' := pickQ q0 0 4000) hmg'.out)
      have hown' := hs2'
      have hbw' := hb9'
      have hgq := own_lt hown'.out gq rfl
      clear hs2' hb9'
      have d4 := hown'.out.cellAt (k * 10 + 6) (by omega)
      have d5 := hown'.out.cellAt (k * 10 + 7) (by omega)
      rw [flatQ_get hmg2.out 6 (by decide)] at d4
      rw [flatQ_get hmg2.out 7 (by decide)] at d5
      replace d4 : w11.cell? ⟨gq, k * 10 + 6, none⟩ = some (.int .i64 q0.de) := d4
      replace d5 : w11.cell? ⟨gq, k * 10 + 7, none⟩ = some (.int .i64 q0.dl) := d5
      have f4 := hown'.out.frozenAt (k * 10 + 6)
      have f5 := hown'.out.frozenAt (k * 10 + 7)
      have hs1 := (hown'.out.stored (k * 10 + 6) (.int .i64 0)).1
      have hs2 := (hs1.stored (k * 10 + 7) (.int .i64 4000)).1
      rw [drop_set hmg2.out] at hs2
      have hb9 := (hbw'.out.setCell (p := ⟨gq, k * 10 + 6, none⟩) (by exact hgb) (.int .i64 0)).setCell (p := ⟨gq, k * 10 + 7, none⟩) (by exact hgb) (.int .i64 4000)
      have hs2' := Lib.hid hs2
      have hb9' := Lib.hid hb9
      clear hs1 hs2 hb9
      have hnx := mixF_next (f := openQ) hqk.out
      rw [List.set_set] at hs2'
      replace hnx : (mixF openQ t k).set k (dropQ (pickQ q0 0 4000) 0 4000) = mixF openQ t (k + 1) := hnx
      rw [hnx] at hs2'
      clear hnx
      go_upto_region 9 with fail
      generalize (w11.setCell ⟨gq, k * 10 + 6, none⟩ (.int .i64 0)).setCell ⟨gq, k * 10 + 7, none⟩ (.int .i64 4000) = w9 at hs2' hb9' ⊢
      go_wp2_with fail
      exact ⟨⟨k + 1, by simp, hlt, hs2'.out, hb9'.out⟩, by simp only [intOf]; omega⟩
    · obtain rfl : k = Nt := by omega
      have hfull : mixF openQ t k = openT t := by rw [← hNt'.out]; exact mixF_all
      rw [hfull] at hown
      have hlti : ¬ (k : Int) < k := by omega
      have hA := hV3.keep hbw hVi3
      have a2 := hA.cell 2
      have a4 := hA.cell 4
      have af2 := hA.free 2
      have af4 := hA.free 4
      simp at a2 a4
      have hA' := (hA.put 2 (.int .i64 1000)).put 4 (.int .i64 8000)
      simp at hA'
      have hgw : p < w3.heap.size := hVi3
      have hne : ∀ r, (Value.slice x6 k c6).ownBlock = some r → r ≠ p := fun r e => by have := owns_row hown r e; omega
      have hown' := Lib.hid (ownsFar (ownsFar hown hne 2 (.int .i64 1000)) hne 4 (.int .i64 8000))
      have hbl := ((hb3.trans (hbw.mono (Nat.le_of_lt hVi3))).setCell (p := ⟨p, 2, none⟩) (Nat.le_refl p) (.int .i64 1000)).setCell (p := ⟨p, 4, none⟩) (Nat.le_refl p) (.int .i64 8000)
      have hbl' := Lib.hid hbl
      have hA'' := Lib.hid hA'
      clear hown hA hA' hbl hbw hfull hV3
      go_upto_region 13 with fail
      generalize (wr.setCell ⟨p, 2, none⟩ (.int .i64 1000)).setCell ⟨p, 4, none⟩ (.int .i64 8000) = w7 at hown' hbl' hA'' ⊢
      clear a2 a4 af2 af4 hne
      have hS7o : OpB w (q + 1) B C _ _ l t w7 := hS2.out.on (by rw [hp'.out]; exact hbl'.out)
      have hq7 := Rqs.of_owns (B := w7.heap.size) hown'.out (by rw [openT_length, hNt'.out]) (Nat.le_refl _)
      have hV7 : At w7 p 28 #[.int .i64 v.hx, .int .i64 v.hy, .int .i64 v.cp, .int .i64 v.st, .int .i64 v.en] := by rw [← hv'.out]; exact hA''.out
      have hS7 : Hid (RtAt w p v _ _ l (openT t) w7) := Lib.hid ⟨hV7, hS7o.l, hq7, hS7o.sg, hS7o.b⟩
      have hS7t := Lib.hid hS7o
      have o0 := hS7o.o.cell 0
      have o1 := hS7o.o.cell 1
      simp at o0 o1
      have hOi := hS7o.o.inside
      clear hS7o hq7 hV7 hA'' hbl' hown' hS2 hVi3 hgw hb3
      obtain ⟨q9, hq9⟩ : ∃ q9, t[R0]? = some q9 := ⟨t[R0]'(by rw [hNt'.out, hNR.out]; omega), List.getElem?_eq_getElem _⟩
      have hw : mayW l R0 I ((I : Int) + J) = true := mayW_iff.2 ⟨by omega, by omega, by rw [hN.out]; omega, by omega, by rw [hN.out]; omega, hnor'.out⟩
      have hin : inT t R0 = true := inT_iff.2 ⟨by omega, by rw [hNt'.out, hNR.out]; omega⟩
      have hDm : Feas.Dr v0 (moreL l R0 I ((I : Int) + J)) t := dr_more hDr'.out hw (by rw [hNt'.out, hNR.out]; omega) (by rw [hN.out]; omega)
      obtain ⟨e1, e2, e3⟩ := open_rise hDr'.out hDm hdv'.out hdt'.out hw hin (by simpa using hq9) (by rw [hN.out]; omega)
      rw [hv'.out] at e1 e2 e3
      have hRb : -3000000 ≤ riseV v l (openT t) R0 I ((I : Int) + J) ∧ riseV v l (openT t) R0 I ((I : Int) + J) ≤ 3000000 := by
        rw [riseV_ok e1]
        have h8 := homeT_bd v (moreL l R0 I ((I : Int) + J)) (openT t)
        have h9 := homeT_bd v l (openT t)
        omega
      have hRi := Rise_any v _ _ l (openT t) (by rw [hN.out]; omega) hnum'.out R0 I ((I : Int) + J) w7 hS7.out.sg hS7.out.l hS7.out.t
      have hsv := (hdt'.out q9 (List.mem_of_getElem? hq9)).2.2.2
      unfold Rq.nr at hsv
      obtain ⟨-, -, -, -, -, hsv⟩ := hsv
      obtain ⟨D, hD⟩ : ∃ D, detV v l (openT t) R0 I ((I : Int) + J) = D := ⟨_, rfl⟩
      obtain ⟨R, hR⟩ : ∃ R, riseV v l (openT t) R0 I ((I : Int) + J) = R := ⟨_, rfl⟩
      rw [e1, hR] at hRi
      rw [hD, hR] at e3
      rw [hR] at hRb
      have hD' := Lib.hid hD
      have he2 := Lib.hid e2
      have hq9' := Lib.hid hq9
      clear hw hin hDm e1 e2 hR hD hq9 hlti hdv' hdt' hNt' hnor' hDr' hv' hlt hk
      have hVc := hS7.out.v
      have p0 := hVc.cell 0
      have p1 := hVc.cell 1
      have p2 := hVc.cell 2
      have p3 := hVc.cell 3
      have p4 := hVc.cell 4
      simp at p0 p1 p2 p3 p4
      have hVi := hVc.inside
      clear hVc
      go_wp2_with fail
      refine hRi.mono ?_
      clear hRi p0 p1 p2 p3 p4 hVi o0 o1 hI1 hJ1 hOi
      rintro e w8 ⟨rfl, hb8⟩
      have hS8 := Lib.hid (hS7.out.on hb8)
      have hS8t := Lib.hid (hS7t.out.on hb8)
      clear hb8 hS7 hS7t
      have hDe := Detour_any v _ _ l (openT t) (by rw [hN.out]; omega) hnum'.out R0 I ((I : Int) + J) w8 hS8.out.l hS8.out.t
      rw [hD'.out, he2.out] at hDe
      have hVc := hS8.out.v
      have p0 := hVc.cell 0
      have p1 := hVc.cell 1
      have p2 := hVc.cell 2
      have p3 := hVc.cell 3
      have p4 := hVc.cell 4
      simp at p0 p1 p2 p3 p4
      have hVi := hVc.inside
      clear hVc
      go_wp2_with fail
      refine hDe.mono ?_
      clear hDe p0 p1 p2 p3 p4 hVi
      rintro e w9 ⟨rfl, hb9⟩
      have hS9 := Lib.hid (hS8.out.on hb9)
      have hS9t := Lib.hid (hS8t.out.on hb9)
      clear hb9 hS8 hS8t
      obtain ⟨gt, ot, rfl, hgt, -, -, -, -, -, -, -, -, -, c9⟩ := Rqs.at hS9t.out.t hq9'.out
      have hRl : (R0 : Int) < k := by have := hNR.out; omega
      subst e3
      go_wp2
      go_ret
      exact ⟨rfl, hS9.out.b⟩

end Go.Proofs.YthjdacbgcpldjaaDoor.Ins

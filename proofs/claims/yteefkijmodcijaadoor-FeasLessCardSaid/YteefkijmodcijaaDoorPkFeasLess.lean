import Derived.Test.YteefkijmodcijaaDoorPkClose
import Derived.Test.YteefkijmodcijaaDoorPkFeasLessMath
import Derived.Test.YteefkijmodcijaaDoorPkFeasWorks2
import Derived.Test.YteefkijmodcijaaDoorPkFeasCheck
import Derived.Test.YteefkijmodcijaaDoorPkRouteKept

/-
  FeasLess returns true, whatever the draft, the times, which request and memory are. Its condition: errors.errorType holds its handle.
-/
namespace Go.Proofs.YteefkijmodcijaaDoor.feasLess
open Go.ChangeShapes Go.WideShapes Go.ChangeAt Go.RowKit Go.Sort Go.Proofs.YteefkijmodcijaaDoor.Mem Go.Proofs.YteefkijmodcijaaDoor.Route Go.Proofs.YteefkijmodcijaaDoor.When Go.Proofs.YteefkijmodcijaaDoor.Feas
set_option linter.unusedVariables false

theorem dist_self (a : Int × Int) : Place.distV a a = 0 := by
  unfold Place.distV Place.gap
  split <;> simp
theorem none_serves {v : Vh} (h : Dr v [] []) : (faultV v [] []).1 = 0 ∧ rightB v [] [] [] = true := by
  have hv := h.hv
  unfold Vh.chk at hv
  rw [Order.veh_iff] at hv
  have he : arV (sp0 v) (homeV v) ≤ v.en := by
    have := dist_self (v.hx, v.hy)
    unfold arV sp0 homeV
    dsimp only
    omega
  exact ⟨h.fault.2 ⟨rfl, sp0 v, rfl, he⟩, h.right.2 ⟨rfl, rfl, sp0 v, rfl, he⟩⟩

set_option maxRecDepth 100000 in
set_option maxHeartbeats 8000000 in
theorem walk (xb : Option Addr) (Nb cb : Nat) (bs : List Int) (a b c : Int) (hby : ∀ x ∈ bs, 0 ≤ x ∧ x < 256) (ha : 0 ≤ a ∧ a < 256) (hb : 0 ≤ b ∧ b < 256) (yb : Option Addr) (My cy : Nat) (ys : List Int) (A Wh M : Int) (hys : ∀ x ∈ ys, 0 ≤ x ∧ x < 256) (hA : 0 ≤ A ∧ A < 256) (hWh : 0 ≤ Wh ∧ Wh < 256) (hM : -128 ≤ M ∧ M < 128) (wh : Int) (h0 : 0 ≤ wh ∧ wh < 256) (w : World) (hg : Hd w)
    (hD : RowB w.heap.size w (.slice xb Nb cb) 1 (bs.map byV)) (hP : RowB w.heap.size w (.slice yb My cy) 1 (ys.map byV)) :
    Calls Tryd.prog 8 #[.agg #[.slice xb Nb cb, .int .u8 a, .int .u8 b, .int .i64 c], .agg #[.slice yb My cy, .int .u8 A, .int .u8 Wh, .int .i8 M], .int .u8 wh] w fun e w' => e = .returned (.bool true) ∧ Below w.heap.size w w' := by
  obtain ⟨q, hq⟩ : ∃ q, w.heap.size = q := ⟨_, rfl⟩
  obtain ⟨w1, hw1⟩ : ∃ w1, (w.alloc (.cells #[.slice xb Nb cb, .int .u8 a, .int .u8 b, .int .i64 c] 24)).alloc (.cells #[.slice yb My cy, .int .u8 A, .int .u8 Wh, .int .i8 M] 27) = w1 := ⟨_, rfl⟩
  have hX1 : At w1 q 24 #[.slice xb Nb cb, .int .u8 a, .int .u8 b, .int .i64 c] := by rw [← hw1]; exact (At.new_ _ _ _ hq.symm).alloc _
  have hY1 : At w1 (q + 1) 27 #[.slice yb My cy, .int .u8 A, .int .u8 Wh, .int .i8 M] := by rw [← hw1]; exact At.new_ _ _ _ (by simp [hq])
  have hb1 : Below w.heap.size w w1 := by rw [← hw1]; exact ((Below.refl _ _).alloc (by omega) _).alloc (by simp) _
  have hs1 : q + 1 < w1.heap.size := hY1.inside
  have hg1 := hg.on hb1
  have hD1 := Lib.hid (RowB.on hD hb1)
  have hP1 := Lib.hid (RowB.on hP hb1)
  have hby' := Lib.hid hby
  have hys' := Lib.hid hys
  have hw1' := Lib.hid hw1
  have hq' := Lib.hid hq
  clear hD hP hby hys hw1 hg hq
  obtain ⟨it, hit, ht0, ht1, ht2⟩ := info_parts info_time
  go_enter Tryd.func8, Tryd.ntmps8
  go_upto_region 1 with fail
  first | rw [hw1'.out] | (simp only [hq'.out]; rw [hw1'.out])
  go_wp2_with fail
  refine (works_any _ hg1).mono ?_
  rintro e w2 ⟨rfl, hb2⟩
  have hg2 := hg1.on hb2
  have hX2 := hX1.keep hb2 hX1.inside
  have hY2 := hY1.keep hb2 hY1.inside
  have hbA := hb1.trans (hb2.mono hb1.size)
  have hp := parts_any xb Nb cb bs a b c _ (RowB.on hD1.out hb2) hby'.out ha hb
  have hP2 := Lib.hid (RowB.on hP1.out hb2)
  have hq2 : q + 1 < w2.heap.size := hY2.inside
  have x0 := hX2.cell 0
  have x1 := hX2.cell 1
  have x2 := hX2.cell 2
  have x3 := hX2.cell 3
  simp at x0 x1 x2 x3
  try simp only [hq'.out]
  clear hX1 hY1 hb1 hb2 hD1 hP1 hby' ha hb hg1 hs1 hw1'
  go_wp2_with fail
  refine hp.mono ?_
  clear hp x0 x1 x2 x3 hX2
  rintro e w3 ⟨⟨v, uo, ur, l, t, rfl, hv, hro, hsm, hlo, hqr, hlr, hch⟩, hb3⟩
  have hDr : Hid (Dr v l t) := Lib.hid (Dr.of hv hsm hlo hch)
  have hnum : Hid (Nums l) := Lib.hid (Dr.nums (v := v) (t := t) hsm)
  have hvd := Lib.hid hv
  have hfine := Lib.hid hsm
  have hdr := Lib.hid hch
  obtain ⟨n, hn⟩ : ∃ n, w3.heap.size = n := ⟨_, rfl⟩
  obtain ⟨w4, hw4⟩ : ∃ w4, w3.alloc (.cells #[.int .i64 v.hx, .int .i64 v.hy, .int .i64 v.cp, .int .i64 v.st, .int .i64 v.en] 34) = w4 := ⟨_, rfl⟩
  have hb34 : Below w3.heap.size w3 w4 := by rw [← hw4]; exact (Below.refl _ _).alloc (Nat.le_refl _) _
  have hV4 : At w4 n 34 #[.int .i64 v.hx, .int .i64 v.hy, .int .i64 v.cp, .int .i64 v.st, .int .i64 v.en] := by rw [← hw4]; exact At.new_ _ _ _ hn.symm
  have hb24 := hb3.trans (hb34.mono hb3.size)
  have hbB := hbA.trans (hb24.mono hbA.size)
  have hY4 := hY2.keep hb24 hY2.inside
  have hg4 := hg2.on hb24
  have hro4 := Lib.hid (hro.on hb34)
  have hqr4 := Lib.hid (hqr.on hb34)
  have hP4 := hP2.out.on hb24
  have hnw : n < w4.heap.size := hV4.inside
  have hqn : q + 1 < n := by have := hb3.size; omega
  have hl12 : Hid (l.length ≤ 12) := Lib.hid hlo
  have ht6 : Hid (t.length ≤ 6) := Lib.hid hlr
  have hw4' := Lib.hid hw4
  have hn' := Lib.hid hn
  clear hb3 hb34 hb24 hbA hY2 hg2 hP2 hro hqr hsm hlo hlr hch hv hw4 hn hq2
  obtain ⟨xr, Nr, cr, rfl, hNr0, hrc1, hrc2, _⟩ := hqr4.out.opened
  obtain ⟨xo, No, co, rfl, hNo0, _, hoc1, hoc2⟩ := hro4.out.opened
  have hNr := Lib.hid hNr0
  have hNo := Lib.hid hNo0
  have hNr6 : Nr ≤ 6 := by rw [← hNr0]; exact ht6.out
  have hNo12 : No ≤ 12 := by rw [← hNo0]; exact hl12.out
  unfold maxLen at hrc2 hoc2
  obtain ⟨h01, h02⟩ := h0
  clear hNr0 hNo0 ht6
  go_upto_region 4 with fail
  try simp only [hn'.out]
  rw [hw4'.out]
  have v0 := hV4.cell 0
  have v1 := hV4.cell 1
  have v2 := hV4.cell 2
  have v3 := hV4.cell 3
  have v4 := hV4.cell 4
  simp at v0 v1 v2 v3 v4
  by_cases hz : Nr = 0
  · subst hz
    obtain rfl : t = [] := List.eq_nil_of_length_eq_zero hNr.out
    obtain rfl : l = [] := List.eq_nil_of_length_eq_zero (by have := hfine.out.2.2.2; simpa using this)
    obtain ⟨e1, e2⟩ := none_serves hDr.out
    have hc := Check_any v _ _ [] [] (by simp) hnum.out w4 hro4.out hqr4.out
    go_wp2_with fail
    refine hc.mono ?_
    clear hc v0 v1 v2 v3 v4
    rintro e w5 ⟨⟨u, rfl, hu⟩, hb5⟩
    rcases hu with ⟨-, rfl⟩ | ⟨e3, -⟩
    case inr => exact absurd e1 e3
    have hR := Right_any v _ _ (.slice none 0 0) [] [] [] (by simp) hnum.out w5 (hro4.out.on hb5) (hqr4.out.on hb5) (RowB.nil _ _ _)
    rw [e2] at hR
    have hV5 := hV4.keep hb5 hV4.inside
    have v0 := hV5.cell 0
    have v1 := hV5.cell 1
    have v2 := hV5.cell 2
    have v3 := hV5.cell 3
    have v4 := hV5.cell 4
    simp at v0 v1 v2 v3 v4
    have hB5 := Lib.hid (hbB.trans (hb5.mono hbB.size))
    clear hV5 hb5 e1 e2
    go_wp2_with fail
    refine hR.mono ?_
    clear hR v0 v1 v2 v3 v4
    rintro e w6 ⟨rfl, hb6⟩
    have hB6 := hB5.out.trans (hb6.mono hB5.out.size)
    clear hb6
    go_wp2
    go_ret
    exact ⟨rfl, hB6⟩
  · have hz2 : (Nr == 0) = false := by simpa using hz
    have hzi : ((Nr : Int) == 0) = false := by simp; omega
    have hm1 : 0 ≤ wh % (Nr : Int) := Int.emod_nonneg _ (by omega)
    obtain ⟨r, hm⟩ : ∃ r, wh % (Nr : Int) = r := ⟨_, rfl⟩
    clear v0 v1 v2 v3 v4 hm1
    go_upto_region 7 with fail
    have y0 := hY4.cell 0
    have y1 := hY4.cell 1
    have y2 := hY4.cell 2
    have y3 := hY4.cell 3
    have v0 := hV4.cell 0
    have v1 := hV4.cell 1
    have v2 := hV4.cell 2
    have v3 := hV4.cell 3
    have v4 := hV4.cell 4
    simp at y0 y1 y2 y3 v0 v1 v2 v3 v4
    have hpu := pushed_any hDr.out hl12.out yb My cy ys A Wh M _ _ w4 hP4 hys'.out hA hWh hM hro4.out hqr4.out
    go_wp2_with fail
    refine hpu.mono ?_
    clear hpu y0 y1 y2 y3 v0 v1 v2 v3 v4 hY4 hP4 hys' hg4 hA hWh hM
    rintro e w5 ⟨⟨us, ts, rfl, hts, _, htl, _⟩, hb5⟩
    obtain ⟨xs, Ns, cs, rfl, hNs0, hsc1, hsc2, _⟩ := hts.opened
    obtain rfl : Ns = No := by rw [← hNs0, htl, hNo.out]
    unfold maxLen at hsc2
    have hV5 := Lib.hid (hV4.keep hb5 hV4.inside)
    have hro5 := Lib.hid (hro4.out.on hb5)
    have hqr5 := Lib.hid (hqr4.out.on hb5)
    have hts5 := Lib.hid hts
    have htl' := Lib.hid htl
    have hB5 := Lib.hid (hbB.trans (hb5.mono hbB.size))
    have hless := Lib.hid (less_serves hDr.out r)
    clear hb5 hts htl hV4 hro4 hqr4 hbB hNs0 hnw hfine hvd hdr
    go_wp2
    go_loopw [12, 13] (fun u i wr => ∃ (k : Nat) (x : Option Addr) (c : Nat), u = .slice x (restL r (l.take k) (ts.take k)).length c ∧ c ≤ maxLen ∧ i = .int .i64 k ∧ k ≤ Ns ∧ wr.ownsRow w5.heap.size 40 3 u (restL r (l.take k) (ts.take k)).length (flatT (restL r (l.take k) (ts.take k))) ∧ Below w5.heap.size w5 wr) (fun _ i _ => Ns - (intOf i).toNat)
    case atStart => exact ⟨0, none, 0, rfl, Nat.zero_le _, rfl, Nat.zero_le _, World.ownsRow_nil _ _ _ _, Below.refl _ _⟩
    case round =>
      obtain ⟨k, x, c, rfl, hcm, rfl, hk, hown, hbw⟩ := hrel
      by_cases hlt : k < Ns
      · obtain ⟨⟨s1, s2⟩, hs⟩ : ∃ s, l[k]? = some s := ⟨l[k]'(by rw [hNo.out]; exact hlt), List.getElem?_eq_getElem _⟩
        obtain ⟨y, hy⟩ : ∃ y, ts[k]? = some y := ⟨ts[k]'(by rw [htl'.out, hNo.out]; exact hlt), List.getElem?_eq_getElem _⟩
        have hlt2 : (k : Int) < Ns := by omega
        have htk : Hid (restL r (l.take (k + 1)) (ts.take (k + 1)) = if s1 = r then restL r (l.take k) (ts.take k) else restL r (l.take k) (ts.take k) ++ [y]) := Lib.hid (by
          rw [Load.take_get hs, Load.take_get hy]
          exact restL_snoc r (s1, s2) y (by simp [htl'.out]))
        have hll : Hid ((restL r (l.take k) (ts.take k)).length ≤ 16) := Lib.hid (by
          rw [restL_length r _ _ (by simp [htl'.out])]
          have := wo_length r (l.take k)
          simp at this
          omega)
        obtain ⟨go, oo, rfl, _, l1, l2⟩ := Row.stop (hro5.out.keep hbw (Nat.le_refl _)) hs
        obtain ⟨gs, os, rfl, hgs, t0, t1, t2⟩ := Tms.at (hts5.out.keep hbw (Nat.le_refl _)) hy
        have hbw' := Lib.hid hbw
        have hown' := Lib.hid hown
        obtain ⟨L, hL⟩ : ∃ L, restL r (l.take k) (ts.take k) = L := ⟨_, rfl⟩
        rw [hL] at htk hll hown' ⊢
        have hll2 : L.length ≤ 16 := hll.out
        have hsz5 : w5.heap.size ≤ wr.heap.size := hbw.size
        clear hbw hown hs hy hL
        by_cases he : s1 = r
        · have hne : (s1 != r) = false := by simp [he]
          have htk2 := Lib.hid (htk.out.trans (if_pos he))
          clear htk
          go_wp2
          go_roundw
          case rel => exact ⟨k + 1, x, c, by rw [htk2.out], hcm, by go_num, hlt, by rw [htk2.out]; exact hown'.out, hbw'.out⟩
          case measure => simp [intOf]; omega
        · have hne : (s1 != r) = true := by simp [he]
          have htk2 := Lib.hid (htk.out.trans (if_neg he))
          clear htk
          go_wp2_with (at_builtin; refine wpList_append_own _ rfl _ _ 30 rfl w5.heap.size 40 it (.agg #[.int .i64 0, .int .i64 0, .int .i64 0]) 3 24 Tryd.underlying30 hit ht0 ht1 ht2 rfl (by decide) _ _ _ rfl (owns_below hown'.out ((Below.refl _ _).alloc (Nat.le_refl _) _)) ⟨wr.heap.size, 0, none⟩ 1 1 [.int .i64 y.ar, .int .i64 y.be, .int .i64 y.lv] rfl rfl (World.news_of_block (cs := #[.int .i64 y.ar, .int .i64 y.be, .int .i64 y.lv]) (t := 40) (fr := (0, 0)) (heap_alloc_new wr _)) (by simp [Value.oneCell']) (by unfold maxLen; omega) (by omega) (by simp; omega) ?_; intro v12 w12 hown12 hgrow12 hnil12; obtain ⟨x12, c12, rfl, hc12, _⟩ := owns_slice hown12)
          have hroo := owns_row hown'.out
          have hB12 : Below w5.heap.size w5 w12 := (hbw'.out.alloc hsz5 _).grown hgrow12 (by simp; omega) (fun r e => by have := hroo r e; omega)
          exact ⟨⟨k + 1, x12, c12, by rw [htk2.out]; simp, hc12, by simp, hlt, by rw [htk2.out, flatT_snoc]; simpa using hown12, hB12⟩, by simp only [intOf]; omega⟩
      · obtain rfl : k = Ns := by omega
        have el : l.take k = l := by rw [← hNo.out, List.take_length]
        have et : ts.take k = ts := by rw [← hNo.out, ← htl'.out, List.take_length]
        rw [el, et] at hown ⊢
        obtain ⟨RL, hRL⟩ : ∃ L, restL r l ts = L := ⟨_, rfl⟩
        rw [hRL] at hown ⊢
        have hrs := Lib.hid (Tms.of_owns hown rfl (Nat.le_refl _))
        have hroW := Lib.hid (hro5.out.on hbw)
        have hqrW := Lib.hid (hqr5.out.on hbw)
        have htsW := Lib.hid (hts5.out.on hbw)
        have hVW := Lib.hid (hV5.out.keep hbw hV5.out.inside)
        have hBW := Lib.hid (hB5.out.trans (hbw.mono hB5.out.size))
        have hRL' := Lib.hid hRL
        have hcW := Without_any _ l r (by have := hl12.out; omega) wr hroW.out
        clear hown hbw hro5 hqr5 hts5 hV5 hB5 el et hRL
        go_wp2_with fail
        refine hcW.mono ?_
        clear hcW
        rintro e w14 ⟨⟨uw, rfl, hlw⟩, hb14⟩
        have hrs2 := Lib.hid (hrs.out.on hb14)
        have hro2 := Lib.hid (hroW.out.on hb14)
        have hqr2 := Lib.hid (hqrW.out.on hb14)
        have hts2 := Lib.hid (htsW.out.on hb14)
        have hV2 := Lib.hid (hVW.out.keep hb14 hVW.out.inside)
        have hB2 := Lib.hid (hBW.out.trans (hb14.mono hBW.out.size))
        have hlw2 := Lib.hid hlw
        have hln : Hid ((woL r l).length ≤ 1000000) := Lib.hid (by have := wo_length r l; have := hl12.out; omega)
        have hnm2 : Hid (Nums (woL r l)) := Lib.hid (fun s hs => hnum.out s (show s ∈ l ∧ s.1 ≠ r by simpa [woL] using hs).1)
        clear hb14 hrs hroW hqrW htsW hVW hBW hlw
        obtain ⟨R1, hR1⟩ : ∃ R, rightB v l t ts = R := ⟨_, rfl⟩
        have hc1 := Right_any v _ _ _ l t ts (by have := hl12.out; omega) hnum.out w14 hro2.out hqr2.out hts2.out
        rw [hR1] at hc1
        obtain ⟨R2, hR2⟩ : ∃ R, rightB v (woL r l) t RL = R := ⟨_, rfl⟩
        have himp : R1 = true → R2 = true := fun e => by rw [← hR2, ← hRL'.out]; exact hless.out.1 ts (by rw [hR1]; exact e)
        have hR2' := Lib.hid hR2
        have p0 := hV2.out.cell 0
        have p1 := hV2.out.cell 1
        have p2 := hV2.out.cell 2
        have p3 := hV2.out.cell 3
        have p4 := hV2.out.cell 4
        simp at p0 p1 p2 p3 p4
        clear hR1 hR2
        go_upto_region 15 with fail
        go_cut [82] from 70 to 82 (fun s wx => s = .bool false ∧ Below w14.heap.size w14 wx)
        case first =>
          cases R1
          · go_wp2_with fail
            refine hc1.mono ?_
            clear hc1 p0 p1 p2 p3 p4
            rintro e w15 ⟨rfl, hb15⟩
            go_wp2
            all_goals go_meet
            exact ⟨rfl, hb15⟩
          · obtain rfl : R2 = true := himp rfl
            go_wp2_with fail
            refine hc1.mono ?_
            clear hc1 p0 p1 p2 p3 p4
            rintro e w15 ⟨rfl, hb15⟩
            have hc2 := Right_any v uw _ _ (woL r l) t RL hln.out hnm2.out w15 (hlw2.out.on hb15) (hqr2.out.on hb15) (hrs2.out.on hb15)
            rw [hR2'.out] at hc2
            have hV15 := hV2.out.keep hb15 hV2.out.inside
            have p0 := hV15.cell 0
            have p1 := hV15.cell 1
            have p2 := hV15.cell 2
            have p3 := hV15.cell 3
            have p4 := hV15.cell 4
            simp at p0 p1 p2 p3 p4
            clear hV15
            go_wp2_with fail
            refine hc2.mono ?_
            clear hc2 p0 p1 p2 p3 p4
            rintro e w16 ⟨rfl, hb16⟩
            have hb := hb15.trans (hb16.mono hb15.size)
            clear hb15 hb16
            go_wp2
            all_goals go_meet
            exact ⟨rfl, hb⟩
        case rest =>
        clear hc1 p0 p1 p2 p3 p4
        obtain ⟨rfl, hbc⟩ := hcut
        obtain ⟨w17, rfl⟩ : ∃ w17, w17 = wc := ⟨_, rfl⟩
        have hroX := Lib.hid (hro2.out.on hbc)
        have hqrX := Lib.hid (hqr2.out.on hbc)
        have hlwX := Lib.hid (hlw2.out.on hbc)
        have hVX := Lib.hid (hV2.out.keep hbc hV2.out.inside)
        have hBX := Lib.hid (hB2.out.trans (hbc.mono hB2.out.size))
        have hcC := Check_any v _ _ l t (by have := hl12.out; omega) hnum.out w17 hroX.out hqrX.out
        have p0 := hVX.out.cell 0
        have p1 := hVX.out.cell 1
        have p2 := hVX.out.cell 2
        have p3 := hVX.out.cell 3
        have p4 := hVX.out.cell 4
        simp at p0 p1 p2 p3 p4
        clear hbc hro2 hqr2 hlw2 hV2 hB2 hts2 hrs2
        go_wp2_with fail
        refine hcC.mono ?_
        clear hcC p0 p1 p2 p3 p4
        rintro e w18 ⟨⟨u, rfl, hu⟩, hb18⟩
        rcases hu with ⟨e1, rfl⟩ | ⟨e1, q1, rfl, -⟩
        · have e2 := hless.out.2 e1
          have hcD := Check_any v uw _ (woL r l) t hln.out hnm2.out w18 (hlwX.out.on hb18) (hqrX.out.on hb18)
          have hV18 := hVX.out.keep hb18 hVX.out.inside
          have hB18 := Lib.hid (hBX.out.trans (hb18.mono hBX.out.size))
          have p0 := hV18.cell 0
          have p1 := hV18.cell 1
          have p2 := hV18.cell 2
          have p3 := hV18.cell 3
          have p4 := hV18.cell 4
          simp at p0 p1 p2 p3 p4
          clear hV18 hb18 e1
          go_wp2_with fail
          refine hcD.mono ?_
          clear hcD p0 p1 p2 p3 p4
          rintro e w19 ⟨⟨u, rfl, hu⟩, hb19⟩
          have hB19 := hB18.out.trans (hb19.mono hB18.out.size)
          rcases hu with ⟨e3, rfl⟩ | ⟨e3, q1, rfl, -⟩
          · clear e3 e2 hb19
            go_wp2
            go_ret
            exact ⟨rfl, hB19⟩
          · exact absurd e2 e3
        · have hB18 := hBX.out.trans (hb18.mono hBX.out.size)
          clear e1 hb18
          go_wp2
          go_ret
          exact ⟨rfl, hB18⟩
end Go.Proofs.YteefkijmodcijaaDoor.feasLess

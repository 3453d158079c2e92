import Derived.Test.YtfoflfeaegfnnaaPkSlackParts
import Derived.Test.YtfoflfeaegfnnaaPkSlackWorks
import Derived.Test.YtfoflfeaegfnnaaPkSlackRiseMath

/-
  SlackRises returns true, whatever the draft and memory are.
-/
namespace Go.Proofs.Ytfoflfeaegfnnaa.Slack
open Go.RowKit Go.Sort Go.Proofs.Ytfoflfeaegfnnaa.Mem Go.Proofs.Ytfoflfeaegfnnaa.Route Go.Proofs.Ytfoflfeaegfnnaa.When Go.Proofs.Ytfoflfeaegfnnaa.Tail
set_option linter.unusedVariables false

set_option maxRecDepth 100000 in
set_option maxHeartbeats 8000000 in
theorem rises_any (a wd s0 e0 : Int) (xr xb : Option Addr) (Nr cr Nb cb : Nat) (rs : List S6) (bs : List Int) (ha : U8 a) (hwd : U8 wd) (hs0 : U8 s0) (he0 : 0 ≤ e0 ∧ e0 < 65536) (hrs : ∀ x ∈ rs, x.ok) (hbs : ∀ x ∈ bs, 0 ≤ x ∧ x < 256) (w : World) (hR : RowB w.heap.size w (.slice xr Nr cr) 6 (rs.map s6V)) (hB : RowB w.heap.size w (.slice xb Nb cb) 1 (bs.map Route.byV)) :
    Calls Try.prog 5 #[.agg #[.int .u8 a, .int .u8 wd, .slice xr Nr cr, .slice xb Nb cb, .int .u8 s0, .int .u16 e0]] w fun e w' => e = .returned (.bool true) ∧ Below w.heap.size w w' := by
  obtain ⟨q, hq⟩ : ∃ q, w.heap.size = q := ⟨_, rfl⟩
  obtain ⟨w1, hw1⟩ : ∃ w1, w.alloc (.cells #[.int .u8 a, .int .u8 wd, .slice xr Nr cr, .slice xb Nb cb, .int .u8 s0, .int .u16 e0] 26) = w1 := ⟨_, rfl⟩
  have hX1 : At w1 q 26 #[.int .u8 a, .int .u8 wd, .slice xr Nr cr, .slice xb Nb cb, .int .u8 s0, .int .u16 e0] := by rw [← hw1]; exact At.new_ _ _ _ hq.symm
  have hb1 : Below w.heap.size w w1 := by rw [← hw1]; exact (Below.refl _ _).alloc (Nat.le_refl _) _
  have hR1 := Lib.hid (RowB.on hR hb1)
  have hB1 := Lib.hid (RowB.on hB hb1)
  have hrs' := Lib.hid hrs
  have hbs' := Lib.hid hbs
  have hw1' := Lib.hid hw1
  have hq' := Lib.hid hq
  have hs1 : q < w1.heap.size := hX1.inside
  clear hR hB hrs hbs hw1 hq
  go_enter Try.func5, Try.ntmps5
  go_upto_region 1 with fail
  first | rw [hw1'.out] | (simp only [hq'.out]; rw [hw1'.out])
  try simp only [hq'.out]
  go_wp2_with fail
  refine (works_any _).mono ?_
  rintro e w2 ⟨rfl, hb2⟩
  have hX2 := hX1.keep hb2 hX1.inside
  have hbA := hb1.trans (hb2.mono hb1.size)
  have hp := parts_any a wd s0 e0 xr xb Nr cr Nb cb rs bs ha hwd hs0 he0 hrs'.out hbs'.out _ (RowB.on hR1.out hb2) (RowB.on hB1.out hb2)
  have x0 := hX2.cell 0
  have x1 := hX2.cell 1
  have x2 := hX2.cell 2
  have x3 := hX2.cell 3
  have x4 := hX2.cell 4
  have x5 := hX2.cell 5
  simp at x0 x1 x2 x3 x4 x5
  have hs2 := hX2.inside
  clear hX1 hb1 hb2 hR1 hB1 hrs' hbs' ha hwd hs0 he0 hs1 hw1' hX2
  go_wp2_with fail
  refine hp.mono ?_
  clear hp x0 x1 x2 x3 x4 x5 hs2
  rintro e w3 ⟨⟨v, ut, ul, l, t, rfl, hen, hro, hnm, hlo, hqr, ht6, ht12⟩, hb3⟩
  have hen' := Lib.hid hen
  have hnum := Lib.hid hnm
  have hl12 := Lib.hid hlo
  have ht6' := Lib.hid ht6
  have ht12' := Lib.hid ht12
  obtain ⟨n, hn⟩ : ∃ n, w3.heap.size = n := ⟨_, rfl⟩
  obtain ⟨w4, hw4⟩ : ∃ w4, w3.alloc (.cells #[.int .i64 v.hx, .int .i64 v.hy, .int .i64 v.cp, .int .i64 v.st, .int .i64 v.en] 31) = w4 := ⟨_, rfl⟩
  have hb34 : Below w3.heap.size w3 w4 := by rw [← hw4]; exact (Below.refl _ _).alloc (Nat.le_refl _) _
  have hV4 : At w4 n 31 #[.int .i64 v.hx, .int .i64 v.hy, .int .i64 v.cp, .int .i64 v.st, .int .i64 v.en] := by rw [← hw4]; exact At.new_ _ _ _ hn.symm
  have hbB := Lib.hid (hbA.trans ((hb3.trans (hb34.mono hb3.size)).mono hbA.size))
  have hro4 := Lib.hid (hro.on hb34)
  have hqr4 := Lib.hid (hqr.on hb34)
  obtain ⟨xl, Nl, cl, rfl, hNl, hNl0, hlc1, hlc2⟩ := hro.opened
  obtain ⟨xt, Nt, ct, rfl, hNt, htc1, htc2, _⟩ := hqr.opened
  unfold maxLen at hlc2 htc2
  have hNl' : Hid (l.length = Nl) := Lib.hid hNl.out
  have hNt' := Lib.hid hNt
  have hN12 : Nl ≤ 12 := by rw [← hNl.out]; exact hlo
  have hNt12 : Nt ≤ 12 := by rw [← hNt]; exact ht12
  have hw4' := Lib.hid hw4
  have hn' := Lib.hid hn
  have hnw : n < w4.heap.size := hV4.inside
  clear hb3 hb34 hbA hro hqr hnm hlo hw4 hn hen ht6 ht12 hNl hNt hNl0
  go_upto_region 4 with fail
  simp only [hn'.out]
  rw [hw4'.out]
  have hcT := Latest_all v (.slice xl Nl cl) (.slice xt Nt ct) l t (by have := hl12.out; omega) hnum.out w4 hro4.out hqr4.out
  obtain ⟨E, hE⟩ : ∃ E, errT v l t = E := ⟨_, rfl⟩
  rw [hE] at hcT
  have hE' := Lib.hid hE
  clear hE
  have v0 := hV4.cell 0
  have v1 := hV4.cell 1
  have v2 := hV4.cell 2
  have v3 := hV4.cell 3
  have v4 := hV4.cell 4
  simp at v0 v1 v2 v3 v4
  go_wp2_with fail
  refine hcT.mono ?_
  clear hcT v0 v1 v2 v3 v4
  rintro e w5 ⟨⟨u, rfl, hu, hun⟩, hb5⟩
  have hV5 := hV4.keep hb5 hV4.inside
  have hro5 := Lib.hid (hro4.out.on hb5)
  have hqr5 := Lib.hid (hqr4.out.on hb5)
  have hB5 := Lib.hid (hbB.out.trans (hb5.mono hbB.out.size))
  have hun' := Lib.hid hun
  have hu' := Lib.hid hu
  clear hun hu hV4 hro4 hqr4 hbB hb5
  cases he0 : (E == 0)
  · have he1 : (E != 0) = true := by simpa using he0
    obtain rfl := hun'.out (by simpa using he0)
    go_wp2
    go_ret
    exact ⟨rfl, hB5.out⟩
  have he1 : (E != 0) = false := by simpa using he0
  obtain rfl : E = 0 := by simpa using he0
  obtain ⟨xu, Nu, cu, rfl, hNu, hu1, hu2⟩ := hu'.out.opened
  have hNu2 : Nu = Nl := by rw [← hNu.out, latest_len hE'.out, hNl'.out]
  subst hNu2
  unfold maxLen at hu2
  have hf := Lib.hid (late_facts hE'.out)
  have hV5' := Lib.hid hV5
  clear hNu hun' hV5
  go_wp2
  go_loopw [8] (fun i wr => ∃ k : Nat, i = .int .i64 k ∧ k ≤ Nu ∧ Below w5.heap.size w5 wr) (fun i _ => Nu - (intOf i).toNat)
  case atStart => exact ⟨0, rfl, Nat.zero_le _, Below.refl _ _⟩
  case round =>
    obtain ⟨k, rfl, hk, hbr⟩ := hrel
    by_cases hkN : k < Nu
    · have hkI : ((k : Int) < (Nu : Int)) := by omega
      have hkl : k < l.length := by rw [hNl'.out]; exact hkN
      obtain ⟨s, hs⟩ : ∃ s, l[k]? = some s := ⟨_, List.getElem?_eq_getElem hkl⟩
      obtain ⟨r, rq, hs1, hrq, hsv, hkind⟩ := stop_req (v := v) hf.out.1 hs
      obtain ⟨A, hA, hAb, hA1, hA2, hA3, hprev⟩ := rise_facts hE'.out hkl
      have hVr := hV5'.out.keep hbr hV5'.out.inside
      have hror := Lib.hid (hro5.out.on hbr)
      have hqrr := Lib.hid (hqr5.out.on hbr)
      have hur : Ints wr.heap.size wr (.slice xu Nu cu) (latestV v l t) := RowB.on hu'.out hbr
      have hBr := Lib.hid (hB5.out.trans (hbr.mono hB5.out.size))
      have hbr' := Lib.hid hbr
      have hrN : r < Nt := by rw [← hNt'.out]; exact (List.getElem?_eq_some_iff.1 hrq).1
      have hrI : ((r : Int) < (Nt : Int)) := by omega
      obtain ⟨s1, s2⟩ := s
      simp only at hs1 hkind
      subst hs1
      rw [hsv] at hA3
      have hsvb : 0 ≤ rq.sv ∧ rq.sv ≤ 1000 := by have := hf.out.2.2 k hkl; rw [hsv] at this; exact this
      obtain ⟨gs, os, rfl, hgs, c0, c1⟩ := Row.stop hror.out hs
      obtain ⟨gq, oq, rfl, hgq, d0, d1, d2, d3, d4, d5, d6, d7, d8, d9⟩ := Rqs.at hqrr.out hrq
      obtain ⟨gu, ou, rfl, hgu, a0⟩ := Ints.number hur hA
      have hp' := Lib.hid hprev
      have hkind' := Lib.hid hkind
      have hV := Lib.hid hVr
      have hs' := Lib.hid hs
      have hrq' := Lib.hid hrq
      have hA' := Lib.hid hA
      have hur' := Lib.hid hur
      have hnr := hVr.inside
      obtain ⟨m, hm⟩ : ∃ m, wr.heap.size = m := ⟨_, rfl⟩
      obtain ⟨w6, hw6⟩ : ∃ w6, (wr.alloc (.cells #[.int .i64 rq.fx, .int .i64 rq.fy, .int .i64 rq.tx, .int .i64 rq.ty, .int .i64 rq.pe, .int .i64 rq.pl, .int .i64 rq.de, .int .i64 rq.dl, .int .i64 rq.ld, .int .i64 rq.sv] 41)).alloc (.cells #[.int .i64 rq.pe, .int .i64 rq.pl] 39) = w6 := ⟨_, rfl⟩
      have hb6 : Below wr.heap.size wr w6 := by rw [← hw6]; exact ((Below.refl _ _).alloc (Nat.le_refl _) _).alloc (by simp) _
      have hQ6 : At w6 m 41 #[.int .i64 rq.fx, .int .i64 rq.fy, .int .i64 rq.tx, .int .i64 rq.ty, .int .i64 rq.pe, .int .i64 rq.pl, .int .i64 rq.de, .int .i64 rq.dl, .int .i64 rq.ld, .int .i64 rq.sv] := by rw [← hw6]; exact (At.new_ _ _ _ hm.symm).alloc _
      have hW6 : At w6 (m + 1) 39 #[.int .i64 rq.pe, .int .i64 rq.pl] := by rw [← hw6]; exact At.new_ _ _ _ (by simp [hm])
      have hm1 : m + 1 < w6.heap.size := hW6.inside
      have hb6' := Lib.hid hb6
      have hw6' := Lib.hid hw6
      have hm' := Lib.hid hm
      have hQ6' := Lib.hid hQ6
      have hW6' := Lib.hid hW6
      clear hVr hs hrq hA hur hm hw6 hb6 hbr hprev hkind hQ6 hW6 hkl hsv
      go_upto_region 12 with fail
      simp only [hm'.out]
      rw [hw6'.out]
      rcases hkind'.out with ⟨h0, hwe, hwl⟩ | ⟨h1, hwe, hwl⟩
      · subst h0
        rw [hwe] at hA2
        rw [hwl] at hA1
        obtain ⟨gs2, os2, es, -, -, c1⟩ := Row.stop (hror.out.on hb6'.out) hs'.out
        cases es
        clear c0 d0 d1 d2 d3 d4 d5 d6 d7 d8 d9 a0 hwe hwl
        have hbx : Below wr.heap.size wr w6 := hb6'.out
        have hQx := hQ6'.out
        have hWx := hW6'.out
        have hrow := (hror.out.on hbx)
        have hrqs := (hqrr.out.on hbx)
        have hux : Ints w6.heap.size w6 (.slice (some ⟨gu, ou, none⟩) Nu cu) (latestV v l t) := RowB.on hur'.out hbx
        have hVx := hV.out.keep hbx hnr
        have g1 : decide (rq.pl < A) = false := by rw [decide_eq_false_iff_not]; omega
        have g2 : decide (A < rq.pe) = false := by rw [decide_eq_false_iff_not]; omega
        have g3 : decide (v.en < A + rq.sv) = false := by rw [decide_eq_false_iff_not]; omega
        obtain ⟨gu2, ou2, eu, -, a0⟩ := Ints.number hux hA'.out
        cases eu
        have v4 := hVx.cell 4
        have q9 := hQx.cell 9
        have y0 := hWx.cell 0
        have y1 := hWx.cell 1
        simp at v4 q9 y0 y1
        have hnx := hVx.inside
        have hmx : m + 1 < w6.heap.size := hWx.inside
        have hBx := Lib.hid (hBr.out.trans (hbx.mono hBr.out.size))
        have hbrx := Lib.hid (hbr'.out.trans (hbx.mono hbr'.out.size))
        by_cases hk0 : 0 < k
        · obtain ⟨j, hj⟩ : ∃ j, k = j + 1 := ⟨k - 1, by omega⟩
          have hjl : j < l.length := by rw [hNl'.out]; omega
          obtain ⟨sj, hsj⟩ : ∃ s, l[j]? = some s := ⟨_, List.getElem?_eq_getElem hjl⟩
          obtain ⟨rj, rqj, hsj1, hrqj, hsvj, -⟩ := stop_req (v := v) hf.out.1 hsj
          obtain ⟨PP, hPP, hPb, hPA⟩ := hp'.out j hj.symm
          rw [hsvj] at hPA
          have hsvbj : 0 ≤ rqj.sv ∧ rqj.sv ≤ 1000 := by have := hf.out.2.2 j hjl; rw [hsvj] at this; exact this
          have hrNj : rj < Nt := by rw [← hNt'.out]; exact (List.getElem?_eq_some_iff.1 hrqj).1
          have hrIj : ((rj : Int) < (Nt : Int)) := by omega
          have hjN : j < Nu := by omega
          have hjI : ((j : Int) < (Nu : Int)) := by omega
          have hk1 : (k : Int) - 1 = (j : Int) := by omega
          have g4 : decide ((0 : Int) < (k : Int)) = true := by rw [decide_eq_true_iff]; omega
          have g5 : decide (A < PP + rqj.sv) = false := by rw [decide_eq_false_iff_not]; omega
          obtain ⟨gu3, ou3, eu3, -, a1⟩ := Ints.number hux hPP
          cases eu3
          obtain ⟨gs3, os3, es3, -, e0, -⟩ := Row.stop hrow hsj
          cases es3
          rw [hsj1] at e0
          obtain ⟨gq3, oq3, eq3, -, -, -, -, -, -, -, -, -, -, q8⟩ := Rqs.at hrqs hrqj
          cases eq3
          clear hsj hsj1 hrqj hPP hsvj hjl hj
          clear hrow hrqs hux hVx hQx hWx hbx
          go_upto_region 14 with fail
          go_quiet (fail)
          have hfin := Lib.hid (Place.below_drewN hbrx.out nq)
          clear hBx hbrx
          go_wp2
          go_roundw
          case rel => exact ⟨k + 1, by go_num, hkN, hfin.out⟩
          case measure => simp [intOf]; omega
        · have g4 : decide ((0 : Int) < (k : Int)) = false := by rw [decide_eq_false_iff_not]; omega
          clear hrow hrqs hux hVx hQx hWx hbx
          go_upto_region 14 with fail
          go_quiet (fail)
          have hfin := Lib.hid (Place.below_drewN hbrx.out nq)
          clear hBx hbrx
          go_wp2
          go_roundw
          case rel => exact ⟨k + 1, by go_num, hkN, hfin.out⟩
          case measure => simp [intOf]; omega
      · subst h1
        rw [hwe] at hA2
        rw [hwl] at hA1
        obtain ⟨gs2, os2, es, -, -, c1⟩ := Row.stop (hror.out.on hb6'.out) hs'.out
        cases es
        clear c0 d0 d1 d2 d3 d4 d5 d6 d7 d8 d9 a0 hwe hwl
        have z0 := hW6'.out.cell 0
        have z1 := hW6'.out.cell 1
        have zf := hW6'.out.free
        have y6 := hQ6'.out.cell 6
        have y7 := hQ6'.out.cell 7
        simp at z0 z1 y6 y7
        obtain ⟨w7, hw7⟩ : ∃ w7, (w6.setCell ⟨m + 1, 0, none⟩ (.int .i64 rq.de)).setCell ⟨m + 1, 1, none⟩ (.int .i64 rq.dl) = w7 := ⟨_, rfl⟩
        have hbx : Below wr.heap.size wr w7 := by rw [← hw7]; exact (hb6'.out.setCell (by have := hm'.out; simp; omega) _).setCell (by have := hm'.out; simp; omega) _
        have hQx : At w7 m 41 #[.int .i64 rq.fx, .int .i64 rq.fy, .int .i64 rq.tx, .int .i64 rq.ty, .int .i64 rq.pe, .int .i64 rq.pl, .int .i64 rq.de, .int .i64 rq.dl, .int .i64 rq.ld, .int .i64 rq.sv] := by rw [← hw7]; exact (hQ6'.out.far (by omega) _ _).far (by omega) _ _
        have hWx : At w7 (m + 1) 39 #[.int .i64 rq.de, .int .i64 rq.dl] := by rw [← hw7]; exact put2 hW6'.out
        have hw7' := Lib.hid hw7
        clear hw7
        go_upto_region 14 with fail
        rw [hw7'.out]
        clear z0 z1 zf y6 y7 c1
        have hrow := (hror.out.on hbx)
        have hrqs := (hqrr.out.on hbx)
        have hux : Ints w7.heap.size w7 (.slice (some ⟨gu, ou, none⟩) Nu cu) (latestV v l t) := RowB.on hur'.out hbx
        have hVx := hV.out.keep hbx hnr
        have g1 : decide (rq.dl < A) = false := by rw [decide_eq_false_iff_not]; omega
        have g2 : decide (A < rq.de) = false := by rw [decide_eq_false_iff_not]; omega
        have g3 : decide (v.en < A + rq.sv) = false := by rw [decide_eq_false_iff_not]; omega
        obtain ⟨gu2, ou2, eu, -, a0⟩ := Ints.number hux hA'.out
        cases eu
        have v4 := hVx.cell 4
        have q9 := hQx.cell 9
        have y0 := hWx.cell 0
        have y1 := hWx.cell 1
        simp at v4 q9 y0 y1
        have hnx := hVx.inside
        have hmx : m + 1 < w7.heap.size := hWx.inside
        have hBx := Lib.hid (hBr.out.trans (hbx.mono hBr.out.size))
        have hbrx := Lib.hid (hbr'.out.trans (hbx.mono hbr'.out.size))
        by_cases hk0 : 0 < k
        · obtain ⟨j, hj⟩ : ∃ j, k = j + 1 := ⟨k - 1, by omega⟩
          have hjl : j < l.length := by rw [hNl'.out]; omega
          obtain ⟨sj, hsj⟩ : ∃ s, l[j]? = some s := ⟨_, List.getElem?_eq_getElem hjl⟩
          obtain ⟨rj, rqj, hsj1, hrqj, hsvj, -⟩ := stop_req (v := v) hf.out.1 hsj
          obtain ⟨PP, hPP, hPb, hPA⟩ := hp'.out j hj.symm
          rw [hsvj] at hPA
          have hsvbj : 0 ≤ rqj.sv ∧ rqj.sv ≤ 1000 := by have := hf.out.2.2 j hjl; rw [hsvj] at this; exact this
          have hrNj : rj < Nt := by rw [← hNt'.out]; exact (List.getElem?_eq_some_iff.1 hrqj).1
          have hrIj : ((rj : Int) < (Nt : Int)) := by omega
          have hjN : j < Nu := by omega
          have hjI : ((j : Int) < (Nu : Int)) := by omega
          have hk1 : (k : Int) - 1 = (j : Int) := by omega
          have g4 : decide ((0 : Int) < (k : Int)) = true := by rw [decide_eq_true_iff]; omega
          have g5 : decide (A < PP + rqj.sv) = false := by rw [decide_eq_false_iff_not]; omega
          obtain ⟨gu3, ou3, eu3, -, a1⟩ := Ints.number hux hPP
          cases eu3
          obtain ⟨gs3, os3, es3, -, e0, -⟩ := Row.stop hrow hsj
          cases es3
          rw [hsj1] at e0
          obtain ⟨gq3, oq3, eq3, -, -, -, -, -, -, -, -, -, -, q8⟩ := Rqs.at hrqs hrqj
          cases eq3
          clear hsj hsj1 hrqj hPP hsvj hjl hj
          clear hrow hrqs hux hVx hQx hWx hbx
          go_upto_region 14 with fail
          go_quiet (fail)
          have hfin := Lib.hid (Place.below_drewN hbrx.out nq)
          clear hBx hbrx
          go_wp2
          go_roundw
          case rel => exact ⟨k + 1, by go_num, hkN, hfin.out⟩
          case measure => simp [intOf]; omega
        · have g4 : decide ((0 : Int) < (k : Int)) = false := by rw [decide_eq_false_iff_not]; omega
          clear hrow hrqs hux hVx hQx hWx hbx
          go_upto_region 14 with fail
          go_quiet (fail)
          have hfin := Lib.hid (Place.below_drewN hbrx.out nq)
          clear hBx hbrx
          go_wp2
          go_roundw
          case rel => exact ⟨k + 1, by go_num, hkN, hfin.out⟩
          case measure => simp [intOf]; omega
    · obtain rfl : k = Nu := by omega
      have hBr := Lib.hid (hB5.out.trans (hbr.mono hB5.out.size))
      clear hbr
      go_wp2
      go_ret
      exact ⟨rfl, hBr.out⟩

end Go.Proofs.Ytfoflfeaegfnnaa.Slack

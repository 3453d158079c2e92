/-
  LoadLess returns true for all loads, bytes and numbers: a drawn route without one of its requests is nowhere fuller, and just as much less full as that one is on board; a vehicle fits just if it has as much room as the peak. Its condition: package load's variable signs is as the program's text lays it when the call begins, which the card ties to that text.
-/
import Derived.Test.YtphfjaelglafnaaDoorLoadLessMath
import Derived.Test.YtphfjaelglafnaaDoorRouteKept
import Derived.Test.YtphfjaelglafnaaDoorRouteAt
import Derived.Test.YtphfjaelglafnaaDoorLoadArgs
import Derived.Test.YtphfjaelglafnaaDoorLoadSgn
namespace Go.Proofs.YtphfjaelglafnaaDoor.loadLess
open Go.ChangeShapes Go.WideShapes Go.ChangeAt Go.RowKit Go.Sort Go.Proofs.YtphfjaelglafnaaDoor.Mem Go.Proofs.YtphfjaelglafnaaDoor.Route Go.Proofs.YtphfjaelglafnaaDoor.When Go.Proofs.YtphfjaelglafnaaDoor.Load Go.Proofs.YtphfjaelglafnaaDoor.Laid
set_option linter.unusedVariables false

set_option maxRecDepth 100000 in
set_option maxHeartbeats 8000000 in
theorem walk (v0 v1 : Value) (wh : Int) (hw0 : 0 ≤ wh) (hw1 : wh < 256) (ns bs : List Int) (hn : ∀ x ∈ ns, 0 ≤ x ∧ x < 65536) (hb : ∀ x ∈ bs, 0 ≤ x ∧ x < 256) (w : World) (hsg : Sg w) (h0 : RowB w.heap.size w v0 1 (ns.map wdV)) (h1 : RowB w.heap.size w v1 1 (bs.map byV)) :
    Calls Tryd.prog 5 #[v0, v1, .int .u8 wh] w fun e w' => e = .returned (.bool true) ∧ Below w.heap.size w w' := by
  obtain ⟨i0, hi, hz0, hz1, hz2⟩ := info_parts info_req
  have hM := Lib.hid (fun w' (hb' : Below w.heap.size w w') => Made_any v1 bs hb w' (h1.on hb'))
  have hTb := Lib.hid (fun w' (hb' : Below w.heap.size w w') => table_tab v0 ns hn w' (h0.on hb'))
  clear h0 h1 hn hb
  go_enter Tryd.func5, Tryd.ntmps5
  go_wp2_with fail
  refine (works_any w hsg).mono ?_
  rintro e w1 ⟨rfl, hB1⟩
  go_wp2_with fail
  refine (hTb.out w1 hB1).mono ?_
  rintro e w2 ⟨⟨u, rfl, hu⟩, hb2⟩
  have hB2 := hB1.trans (hb2.mono hB1.size)
  have hbase : w.heap.size ≤ w1.heap.size := hB1.size
  have hs2 : w1.heap.size ≤ w2.heap.size := hb2.size
  clear hTb hb2 hB1
  go_wp2
  go_loopw [7] (fun u wr => TabO w1.heap.size wr u ∧ w1.heap.size ≤ wr.heap.size ∧ Below w.heap.size w wr) (fun u _ => 6 - lenV u)
  case atStart => exact ⟨hu, hs2, hB2⟩
  case round =>
    obtain ⟨⟨T, x, c, hok, hT12, rfl, hown⟩, hws, hbw⟩ := hrel
    clear hB2 hu
    have hsz := hbw.size
    obtain ⟨N, hN⟩ : ∃ N, T.length = N := ⟨_, rfl⟩
    have hN' := Lib.hid hN
    have hok' := Lib.hid hok
    rw [hN] at hown hT12 ⊢
    clear hN hok
    by_cases hlt : N < 6
    · have hown' := Lib.hid hown
      have hro := Lib.hid (owns_row hown)
      have hbw' := Lib.hid hbw
      clear hown hbw
      go_upto_region 5 with fail
      go_wp2_with (at_builtin; go_loud (refine wpList_append_own _ rfl _ _ 33 rfl w1.heap.size 55 i0 (.agg #[.int .i64 0, .int .i64 0, .int .i64 0, .int .i64 0, .int .i64 0, .int .i64 0, .int .i64 0, .int .i64 0, .int .i64 0, .int .i64 0]) 10 80 Tryd.underlying33 hi hz0 hz1 hz2 rfl (by decide) _ _ _ rfl (hown'.out.alloc _) ⟨wr.heap.size, 0, none⟩ 1 1 (rqV (rqL 9)) rfl rfl (World.news_of_block (t := 55) (fr := (0, 0)) (heap_alloc_new wr _)) (by simp [Value.oneCell', rqV]) (by unfold maxLen; omega) (by omega) (by simp; omega) ?_); intro v7 w7 hown7 hgrow7 hnil7)
      have hB7 := (hbw'.out.alloc hsz _).grown hgrow7 (by simp; omega) (fun r e => by have := hro.out _ e; omega)
      rw [← flatQ_snoc] at hown7
      have hl7 : (T ++ [rqL 9]).length = N + 1 := by rw [List.length_append, hN'.out]; rfl
      rw [← hl7] at hown7
      have ht7 := TabO.of (hok'.out.snoc (rqL_chk (ld := 9) (by omega) (by omega))) (by rw [hl7]; omega) hown7
      have hm7 : lenV v7 = N + 1 := by
        obtain ⟨x7, c7, rfl, _⟩ := ownSlice hown7
        exact hl7
      have hgs := hgrow7.size
      clear hown7 hgrow7 hnil7
      go_roundw
      case rel => exact ⟨ht7, by have := hgs; simp at this; omega, hB7⟩
      case measure =>
        show 6 - lenV v7 < 6 - N
        omega
    · have hR := Lib.hid (show Rqs wr.heap.size wr (.slice x N c) T from Rqs.of_owns (by rw [hN'.out]; exact hown) rfl (Nat.le_refl _))
      obtain ⟨_, _, e, hc1, hc2⟩ := ownSlice hown
      cases e
      unfold maxLen at hc1
      clear hown hws hbase
      obtain ⟨w3, hw3⟩ : ∃ w3, wr = w3 := ⟨_, rfl⟩
      subst hw3
      have hM' := hM.out wr hbw
      clear hM
      go_wp2_with fail
      refine hM'.mono ?_
      clear hM'
      rintro e w4 ⟨⟨v', rfl, l, k, hL, hD, hk6, -⟩, hb4⟩
      have hB4 := hbw.trans (hb4.mono hsz)
      have hT4 := Lib.hid (hR.out.on hb4)
      have htz := told_drawn hD hk6 hok'.out (by rw [hN'.out]; omega)
      have hll : l.length ≤ 12 := by have := hD.2.1; omega
      have hP := Profile_all v' (.slice x N c) l T (by omega) (hD.nums hk6) w4 (hsg.on hB4) hL hT4.out
      rw [htz, prof_told htz] at hP
      obtain ⟨y, L, cl, rfl, hLl, hy0, hlc1, hlc2⟩ := hL.opened
      rw [hLl.out] at hll
      unfold maxLen at hlc2
      have hL4 := Lib.hid hL
      have htz' := Lib.hid htz
      have hD' := Lib.hid hD
      have hgt := Lib.hid (told_bits htz).2.2
      clear hD htz hL hb4 hbw hR hy0
      go_wp2_with fail
      refine hP.mono ?_
      clear hP
      rintro e w5 ⟨⟨a, rfl, ha, -, -⟩, hb5⟩
      have hB5 := hB4.trans (hb5.mono hB4.size)
      have hT5 := Lib.hid (hT4.out.on hb5)
      have hL5 := Lib.hid (hL4.out.on hb5)
      have ha5 := Lib.hid ha
      obtain ⟨za, na, ca, rfl, hna, hac1, hac2⟩ := ha.opened
      have hnL : na = L := by rw [← hna.out, prof_length, hLl.out]
      subst hnL
      unfold maxLen at hac2
      have hnums := Lib.hid (hD'.out.nums hk6)
      have hl4 := hb5.size
      have hPk := Peak_any (.slice y na cl) (.slice x N c) l T (by rw [hLl.out]; omega) hnums.out w5 (hsg.on hB5) hL5.out hT5.out
      have hpe : peakV l T = peakL (prof T l) := by unfold peakV; rw [prof_told htz'.out]
      rw [hpe, htz'.out] at hPk
      clear ha hb5 hB4 hT4 hL4 hna hpe
      obtain ⟨PK, hPK⟩ : ∃ PK, peakL (prof T l) = PK := ⟨_, rfl⟩
      rw [hPK] at hPk
      have hPK' := Lib.hid hPK
      have hpl := peak_le htz'.out
      rw [hPK] at hpl
      clear hPK
      go_wp2_with fail
      refine hPk.mono ?_
      clear hPk
      rintro e w6 ⟨rfl, hb6⟩
      have hB6 := hB5.trans (hb6.mono hB5.size)
      have hT6 := Lib.hid (hT5.out.on hb6)
      have hL6 := Lib.hid (hL5.out.on hb6)
      have ha6 := Lib.hid (ha5.out.on hb6)
      clear hb6 hB5 hT5 hL5 ha5
      go_upto_if 57 with fail
      go_cut [13, 14, 15, 16] from 57 (fun s13 s14 s15 s16 wx => Below w6.heap.size w6 wx)
      case first =>
        by_cases hp : 0 < PK
        · have t1 : decide (0 < PK) = true := by simpa using hp
          have hj := fit_just htz'.out (by rw [hPK'.out]; exact hp)
          rw [hPK'.out] at hj
          have hF1 := Fits_any (room PK) (.slice y na cl) (.slice x N c) l T (by rw [hLl.out]; omega) hnums.out w6 (hsg.on hB6) hL6.out hT6.out
          rw [hj.1, hj.2] at hF1
          go_wp2_with fail
          refine hF1.mono ?_
          clear hF1
          rintro e w7 ⟨rfl, hb7⟩
          have hB7 := hB6.trans (hb7.mono hB6.size)
          by_cases hp1 : 1 < PK
          · have t2 : decide (1 < PK) = true := by simpa using hp1
            obtain ⟨at1, e1, e2, e3⟩ := fit_less htz'.out (by rw [hPK'.out]; exact hp1)
            rw [hPK'.out] at e1 e2 e3
            have hF2 := Fits_any (room (PK - 1)) (.slice y na cl) (.slice x N c) l T (by rw [hLl.out]; omega) hnums.out w7 (hsg.on hB7) (hL6.out.on hb7) (hT6.out.on hb7)
            rw [e1, e2] at hF2
            have hmx : max 1 (PK - 1) = PK - 1 := by omega
            obtain ⟨g3, o3, rfl, hg3, e0⟩ := Ints.number (ha6.out.on hb7) e3
            have hatn := Lib.hid e3
            have hat : at1 < na := by
              have := (List.getElem?_eq_some_iff.1 e3).1
              rw [prof_length, hLl.out] at this
              exact this
            clear e1 e2 e3 hj
            go_wp2_with fail
            refine hF2.mono ?_
            clear hF2
            rintro e w8 ⟨rfl, hb8⟩
            have e0' := (hb8.cell (p := ⟨g3, o3 + at1, none⟩) hg3).trans e0
            clear e0
            go_wp2
            all_goals go_meet
            exact hb7.trans (hb8.mono hb7.size)
          · have t2 : decide (1 < PK) = false := by simpa using hp1
            obtain rfl : PK = 1 := by omega
            have hF2 := Fits_any (room 1) (.slice y na cl) (.slice x N c) l T (by rw [hLl.out]; omega) hnums.out w7 (hsg.on hB7) (hL6.out.on hb7) (hT6.out.on hb7)
            generalize fitAt (room 1) l T = X at hF2
            generalize fitE (room 1) l T = Y at hF2
            clear hj
            go_wp2_with fail
            refine hF2.mono ?_
            clear hF2
            rintro e w8 ⟨rfl, hb8⟩
            go_wp2
            all_goals go_meet
            exact hb7.trans (hb8.mono hb7.size)
        · have t1 : decide (0 < PK) = false := by simpa using hp
          go_wp2
          all_goals go_meet
          exact Below.refl _ _
      case rest =>
        have hBc := hB6.trans (hcut.mono hB6.size)
        have hTc := Lib.hid (hT6.out.on hcut)
        have hLc := Lib.hid (hL6.out.on hcut)
        have hac := Lib.hid (ha6.out.on hcut)
        clear hB6 hT6 hL6 ha6 hcut
        by_cases hn0 : na = 0
        · subst hn0
          have hz : PK = 0 := by
            have h1 : l = [] := List.eq_nil_of_length_eq_zero hLl.out
            rw [← hPK'.out, h1]
            rfl
          subst hz
          go_wp2
          go_ret
          exact ⟨rfl, hBc⟩
        · have hn1 : ((na : Int) == 0) = false := by rw [beq_eq_false_iff_ne]; omega
          have hX1 : 0 ≤ wh % (na : Int) := Int.emod_nonneg _ (by omega)
          have hX2 : wh % (na : Int) < na := Int.emod_lt_of_pos _ (by omega)
          obtain ⟨j, hj⟩ : ∃ j : Nat, wh % (na : Int) = j := ⟨(wh % (na : Int)).toNat, by omega⟩
          have hj2 : j < na := by omega
          have hj' := Lib.hid hj
          have ht : wh.tmod (na : Int) = j := by rw [Int.tmod_eq_emod_of_nonneg hw0, hj]
          obtain ⟨s, hs⟩ : ∃ s, l[j]? = some s := ⟨l[j]'(by rw [hLl.out]; exact hj2), List.getElem?_eq_getElem _⟩
          obtain ⟨g, o, rfl, hg, c0, c1⟩ := Row.stop hLc.out hs
          have hs' := Lib.hid (List.mem_of_getElem? hs)
          clear hs hX1 hX2
          go_upto_region 19 with fail
          obtain ⟨P, D, p1, p2, p3, p4, p5, p6, p7, p8⟩ := less_all T hD'.out.1 hs'.out
          obtain ⟨q, hq, q1, q2, q3, q4⟩ := hgt.out s hs'.out
          have hld := ldR_get hq
          obtain ⟨d, hd⟩ : ∃ d, q.ld = d := ⟨_, rfl⟩
          rw [hd] at q3 hld
          rw [hld] at p7
          have htw := told_wo hD'.out hk6 hok'.out (by rw [hN'.out]; omega) s.1
          have hnw := Lib.hid (fun x hx => hnums.out x ((List.mem_filter.1 hx).1 : x ∈ l) : Nums (woL s.1 l))
          obtain ⟨s1, s2⟩ := s
          simp only at p3 p4 p5 p6 p7 p8 q1 q2 hq c0 htw hnw
          have hAt := At_any (.slice (some ⟨g, o, none⟩) na cl) l s1 (by rw [hLl.out]; omega) wc hLc.out
          have hWo := fun w' (hb' : Below wc.heap.size wc w') => Without_any (.slice (some ⟨g, o, none⟩) na cl) l s1 (by rw [hLl.out]; omega) w' (hLc.out.on hb')
          rw [p3, p4] at hAt
          have hWo' := Lib.hid hWo
          rw [hLl.out] at p2
          have hlw : Hid ((woL s1 l).length + 2 = na) := Lib.hid (p5.trans hLl.out)
          have p6' := Lib.hid p6
          have p7' := Lib.hid p7
          have p8' := Lib.hid p8
          have hq' := Lib.hid hq
          have htw' := Lib.hid htw
          have hd' := Lib.hid hd
          have hnt : s1.toNat < N ∧ 0 ≤ s1 := by
            rw [hN'.out] at q2
            omega
          clear hWo p3 p4 p5 p6 p7 p8 hq htw hd c0 c1 q1 q2 q4 hld
          go_wp2_with fail
          refine hAt.mono ?_
          clear hAt
          rintro e w7 ⟨rfl, hb7⟩
          have hBw7 := hBc.trans (hb7.mono hBc.size)
          go_wp2_with fail
          refine (hWo'.out w7 hb7).mono ?_
          rintro e w8 ⟨⟨vw, rfl, hvw⟩, hb8⟩
          have hBw8 := hBw7.trans (hb8.mono hBw7.size)
          have hT8 := Lib.hid ((hTc.out.on hb7).on hb8)
          have hP8 := Profile_all vw (.slice x N c) (woL s1 l) T (by have := hlw.out; omega) hnw.out w8 (hsg.on hBw8) hvw hT8.out
          rw [htw'.out, prof_told htw'.out] at hP8
          have ha8 := Lib.hid ((hac.out.on hb7).on hb8)
          obtain ⟨xw, Nw, cw, rfl, _, _, _, _⟩ := hvw.opened
          clear hvw hb7 hb8 hBw7 hTc hac hLc
          go_wp2_with fail
          refine hP8.mono ?_
          clear hP8
          rintro e w9 ⟨⟨cc, rfl, hcc, -, -⟩, hb9⟩
          have hB9 := hBw8.trans (hb9.mono hBw8.size)
          have hT9 := Lib.hid (hT8.out.on hb9)
          have ha9 := Lib.hid (ha8.out.on hb9)
          have hcc' := Lib.hid hcc
          obtain ⟨zc, M, cM, rfl, hM, hMc1, hMc2⟩ := hcc.opened
          have hMn : M + 2 = na := by rw [← hM.out, prof_length]; exact hlw.out
          unfold maxLen at hMc2
          clear hcc hb9 hBw8 hT8 ha8 hBc
          go_wp2
          go_loopw [22, 23] (fun kk i wr => ∃ k : Nat, k ≤ na ∧ i = .int .i64 k ∧ kk = .int .i64 (kOf P D k : Nat) ∧ wr = w9) (fun _ i _ => na - (intOf i).toNat)
          case atStart => exact ⟨0, by omega, rfl, by simp [kOf], rfl⟩
          case round =>
            obtain ⟨k, hk, rfl, rfl, rfl⟩ := hrel
            by_cases hlt : k < na
            · have hpk := prof_get (t := T) (l := l) (k := k) (by rw [hLl.out]; omega)
              have hab := acc_bd htz'.out (k := k + 1) (by rw [hLl.out]; omega)
              have hltl : k < l.length := by rw [hLl.out]; exact hlt
              have hltl' := Lib.hid hltl
              obtain ⟨A, hA⟩ : ∃ A, acc T (l.take (k + 1)) = A := ⟨_, rfl⟩
              rw [hA] at hpk hab
              have hA' := Lib.hid hA
              obtain ⟨g3, o3, rfl, hg3, e0⟩ := Ints.number ha9.out hpk
              clear hpk hA hltl
              by_cases hkP : k = P
              · subst hkP
                have hn := Lib.hid (kOf_skip p1 (.inl rfl) : kOf k D (k + 1) = kOf k D k)
                go_wp2
                go_roundw
                case rel => exact ⟨k + 1, by omega, by go_num, by rw [hn.out], trivial⟩
                case measure => simp [intOf]; omega
              by_cases hkD : k = D
              · subst hkD
                have hn := Lib.hid (kOf_skip p1 (.inr rfl) : kOf P k (k + 1) = kOf P k k)
                have t1 : ((k : Int) == (P : Int)) = false := by rw [beq_eq_false_iff_ne]; omega
                go_wp2
                go_roundw
                case rel => exact ⟨k + 1, by omega, by go_num, by rw [hn.out], trivial⟩
                case measure => simp [intOf]; omega
              have hn := Lib.hid (kOf_next p1 hkP hkD)
              have t1 : ((k : Int) == (P : Int)) = false := by rw [beq_eq_false_iff_ne]; omega
              have t2 : ((k : Int) == (D : Int)) = false := by rw [beq_eq_false_iff_ne]; omega
              rcases Nat.lt_or_ge k P with h1 | h1
              · have e1 := p6'.out k hltl'.out h1
                rw [hA'.out] at e1
                obtain ⟨K, hK⟩ : ∃ K, kOf P D k = K := ⟨_, rfl⟩
                rw [hK] at e1 hn ⊢
                have hKM : K < M := by have := (List.getElem?_eq_some_iff.1 e1).1; rw [hM.out] at this; exact this
                obtain ⟨g4, o4, rfl, hg4, e2⟩ := Ints.number hcc'.out e1
                have t3 : decide ((P : Int) < (k : Int)) = false := by simp; omega
                have t5 : decide ((M : Int) ≤ (K : Int)) = false := by simp; omega
                clear e1 hK
                go_wp2
                go_roundw
                case rel => exact ⟨k + 1, by omega, by go_num, by rw [hn.out]; go_num, trivial⟩
                case measure => simp [intOf]; omega
              rcases Nat.lt_or_ge k D with h2 | h2
              · have e1 := p7'.out k hltl'.out (by omega) h2
                rw [hA'.out] at e1
                obtain ⟨K, hK⟩ : ∃ K, kOf P D k = K := ⟨_, rfl⟩
                rw [hK] at e1 hn ⊢
                have hKM : K < M := by have := (List.getElem?_eq_some_iff.1 e1).1; rw [hM.out] at this; exact this
                obtain ⟨g4, o4, rfl, hg4, e2⟩ := Ints.number hcc'.out e1
                have t3 : decide ((P : Int) < (k : Int)) = true := by simp; omega
                have t4 : decide ((k : Int) < (D : Int)) = true := by simp; omega
                obtain ⟨n1, rfl⟩ : ∃ n : Nat, s1 = n := ⟨s1.toNat, by omega⟩
                have hn1 : n1 < N := by have := hnt.1; simpa using this
                obtain ⟨g5, o5, rfl, hg5, d0, d1, d2, d3, d4, d5, d6, d7, d8, d9⟩ := Rqs.at hT9.out (by simpa using hq'.out)
                rw [hd'.out] at d8
                clear d0 d1 d2 d3 d4 d5 d6 d7 d9
                have t5 : decide ((M : Int) ≤ (K : Int)) = false := by simp; omega
                clear e1 hK
                go_wp2
                go_roundw
                case rel => exact ⟨k + 1, by omega, by go_num, by rw [hn.out]; go_num, trivial⟩
                case measure => simp [intOf]; omega
              · have e1 := p8'.out k hltl'.out (by omega)
                rw [hA'.out] at e1
                obtain ⟨K, hK⟩ : ∃ K, kOf P D k = K := ⟨_, rfl⟩
                rw [hK] at e1 hn ⊢
                have hKM : K < M := by have := (List.getElem?_eq_some_iff.1 e1).1; rw [hM.out] at this; exact this
                obtain ⟨g4, o4, rfl, hg4, e2⟩ := Ints.number hcc'.out e1
                have t3 : decide ((P : Int) < (k : Int)) = true := by simp; omega
                have t4 : decide ((k : Int) < (D : Int)) = false := by simp; omega
                have t5 : decide ((M : Int) ≤ (K : Int)) = false := by simp; omega
                clear e1 hK
                go_wp2
                go_roundw
                case rel => exact ⟨k + 1, by omega, by go_num, by rw [hn.out]; go_num, trivial⟩
                case measure => simp [intOf]; omega
            · obtain rfl : k = na := by omega
              have hkM : kOf P D k = M := by unfold kOf; rw [if_neg (by omega), if_neg (by omega)]; omega
              rw [hkM]
              go_wp2
              go_ret
              exact ⟨rfl, hB9⟩

set_option maxRecDepth 100000 in
theorem lifted (os : Os) (started : os.Started) (H : Type) (enc : TypeId × Value → H) :
    ReturnsInHanded {} Tryd.checked os 5 .any (fun w args => (Rows.loadLessSpec.pre enc Tryd.prog Tryd.f5 [] false w args ∧ laidMetH Tryd.prog Rows.loadLessRow.laid w) ∧ sizedMet enc Tryd.prog Tryd.f5 (OpenSpec.ofChange Rows.loadLessSpec) false w args)
      (Rows.loadLessSpec.post enc Tryd.prog Tryd.f5 false true false false) := by
  refine returnsInHanded_of_change_and (C := Tryd.checked) (X := fun w _ => laidMetH Tryd.prog Rows.loadLessRow.laid w) (fun _ _ _ hh h => h.of_heap hh) own started (by kernel_rfl) Tryd.func5
    (ChangeSpec.witness_shaped (enc := enc) (C := Tryd.checked) (os := os) (X := fun w _ => laidMetH Tryd.prog Rows.loadLessRow.laid w) false (World.doorLaid Tryd.prog 400 os) #[.slice none 0 0, .slice none 0 0, .int .u8 0] 8 rfl (World.shaped_of_RefB (by kernel_rfl) (by kernel_rfl)) (by kernel_rfl) (by kernel_rfl) (by kernel_rfl) (door_met os _)) ?_
  intro W base args ds gs before hval0 hW _ _ hL _
  have hval : ∀ (j : Nat) t v, Tryd.f5.params[j]? = some t → args[j]? = some v → Value.okWide Tryd.prog W .any base t v := hval0
  have hW' := hW
  obtain ⟨p, q, hA0, hV, rfl, hfz, hnd⟩ := hW
  have hA : DataW.TrodAll enc Tryd.prog W 0 (fun _ => true) true Tryd.f5.params.toList args.toList ds p := hA0
  rw [Tryd.params5] at hA hval
  obtain ⟨v0, vs0, d0, ds0, p0, q0, hargs, rfl, rfl, h0, r0⟩ := trodAll_cons hA
  obtain ⟨v1, vs1, d1, ds1, p1, q1, rfl, rfl, rfl, h1, r1⟩ := trodAll_cons r0
  obtain ⟨v2, vs2, d2, ds2, p2, q2, rfl, rfl, rfl, h2, r2⟩ := trodAll_cons r1
  obtain ⟨rfl, rfl, rfl⟩ := trodAll_nil r2
  obtain rfl : args = #[v0, v1, v2] := by cases args; simp_all
  obtain ⟨rfl, rfl⟩ := trodVars_none hV
  obtain ⟨ns, hns, hn⟩ := openWords (hval 0 _ _ rfl rfl) h0
  obtain ⟨bs, hbs, hb⟩ := openBytes (hval 1 _ _ rfl rfl) h1
  obtain ⟨wh, rfl, rfl, rfl, w2⟩ := open_int Tryd.underlying5 (hval 2 5 v2 rfl rfl) h2
  have hw := u8_ends w2
  exact (walk v0 v1 wh hw.1 (by omega) ns bs hn hb W (sg_of_laid hL) hns hbs).mono fun e W' ⟨he, hb⟩ => ⟨_, he, Close.law_post laidOut (by kernel_rfl) rfl (by kernel_rfl) Tryd.underlying4 hW' rfl hb⟩

theorem over : Rows.LoadLessSaid :=
  OpenClaim.holds_of_wide 5 Tryd.f5 rfl rfl rfl rfl rfl rfl rfl ⟨rfl, rfl, rfl, rfl, rfl⟩ rfl rfl rfl rfl rfl (by kernel_rfl) Tryd.func5 (by kernel_rfl)
    (of_decide_eq_true (by kernel_rfl)) (by unfold Func.isWrapper; first | (rw [if_pos (by decide +kernel)]; kernel_rfl) | (rw [if_neg (by decide +kernel)]; exact ⟨rfl, rfl⟩))
    (fun os started H enc _ => lifted os started H enc)

theorem proved : Rows.LoadLessCardSaid :=
  Claim7.holds_tied_plain_at .later [] [.data] true _ false
    over (fun _ h => by cases h) (by kernel_rfl) (fun _ h => by cases h) loadLess_row_tie rfl ⟨rfl, rfl⟩ (by kernel_rfl) rfl
    (fun f fn hf hfn => by
      obtain rfl : f = 5 := Option.some.inj ((show Tryd.prog.funcNamed "consign/consignlaw08.LoadLess" = some 5 by kernel_rfl).symm.trans hf) |>.symm
      obtain rfl : fn = Tryd.f5 := (Option.some.inj (Tryd.func5.symm.trans hfn)).symm
      exact ⟨by kernel_rfl, fun j t ht => by
        rw [Tryd.params5] at ht
        have hm : t ∈ [22, 23, 5] := by simpa using Array.mem_of_getElem? ht
        have hall : ([22, 23, 5].all fun u => !Tryd.prog.wantsStandIn u) = true := by kernel_rfl
        exact (show Tryd.prog.wantsStandIn t = false by simpa using List.all_eq_true.1 hall t hm)⟩)
    (by kernel_rfl)
#print axioms proved

end Go.Proofs.YtphfjaelglafnaaDoor.loadLess

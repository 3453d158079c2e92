/-
  LoadFlows returns true for all loads and bytes: behind each stop of a drawn route there is as much more, or less, as its request's Load; never less than 0; nothing behind the last one; and just the Loads of what is open. Its condition: package load's variable signs is as the program's text lays it when the call begins, which the card ties to that text.
-/
import Derived.Test.YtphfjaelglafnaaDoorLoadLaw
import Derived.Test.YtphfjaelglafnaaDoorLoadRefProf
import Derived.Test.YtphfjaelglafnaaDoorLoadArgs
import Derived.Test.YtphfjaelglafnaaDoorLoadSgn
import Derived.Test.YtphfjaelglafnaaDoorRouteOpen
namespace Go.Proofs.YtphfjaelglafnaaDoor.loadFlows
open Go.ChangeShapes Go.WideShapes Go.ChangeAt Go.RowKit Go.Sort Go.Proofs.YtphfjaelglafnaaDoor.Mem Go.Proofs.YtphfjaelglafnaaDoor.Route Go.Proofs.YtphfjaelglafnaaDoor.When Go.Proofs.YtphfjaelglafnaaDoor.Load Go.Proofs.YtphfjaelglafnaaDoor.Laid
set_option linter.unusedVariables false

set_option maxRecDepth 100000 in
set_option maxHeartbeats 8000000 in
theorem walk (v0 v1 : Value) (ns bs : List Int) (hn : ∀ x ∈ ns, 0 ≤ x ∧ x < 65536) (hb : ∀ x ∈ bs, 0 ≤ x ∧ x < 256) (w : World) (hsg : Sg w) (h0 : RowB w.heap.size w v0 1 (ns.map wdV)) (h1 : RowB w.heap.size w v1 1 (bs.map byV)) :
    Calls Tryd.prog 4 #[v0, v1] w fun e w' => e = .returned (.bool true) ∧ Below w.heap.size w w' := by
  obtain ⟨i0, hi, hz0, hz1, hz2⟩ := info_parts info_req
  have hM := Lib.hid (fun w' (hb' : Below w.heap.size w w') => Made_any v1 bs hb w' (h1.on hb'))
  have hTb := Lib.hid (fun w' (hb' : Below w.heap.size w w') => table_tab v0 ns hn w' (h0.on hb'))
  clear h0 h1 hn hb
  go_enter Tryd.func4, Tryd.ntmps4
  go_wp2_with fail
  refine (works_any w hsg).mono ?_
  rintro e w1 ⟨rfl, hB1⟩
  go_wp2_with fail
  refine (hTb.out w1 hB1).mono ?_
  rintro e w2 ⟨⟨u, rfl, hu⟩, hb2⟩
  have hB2 := hB1.trans (hb2.mono hB1.size)
  have hbase : w.heap.size ≤ w1.heap.size := hB1.size
  have hs2 : w1.heap.size ≤ w2.heap.size := hb2.size
  clear hTb hb2 hB1
  go_wp2
  go_loopw [5] (fun u wr => TabO w1.heap.size wr u ∧ w1.heap.size ≤ wr.heap.size ∧ Below w.heap.size w wr) (fun u _ => 6 - lenV u)
  case atStart => exact ⟨hu, hs2, hB2⟩
  case round =>
    obtain ⟨⟨T, x, c, hok, hT12, rfl, hown⟩, hws, hbw⟩ := hrel
    clear hB2 hu
    have hsz := hbw.size
    obtain ⟨N, hN⟩ : ∃ N, T.length = N := ⟨_, rfl⟩
    have hN' := Lib.hid hN
    have hok' := Lib.hid hok
    rw [hN] at hown hT12 ⊢
    clear hN hok
    by_cases hlt : N < 6
    · have hown' := Lib.hid hown
      have hro := Lib.hid (owns_row hown)
      have hbw' := Lib.hid hbw
      clear hown hbw
      go_upto_region 5 with fail
      go_wp2_with (at_builtin; go_loud (refine wpList_append_own _ rfl _ _ 33 rfl w1.heap.size 55 i0 (.agg #[.int .i64 0, .int .i64 0, .int .i64 0, .int .i64 0, .int .i64 0, .int .i64 0, .int .i64 0, .int .i64 0, .int .i64 0, .int .i64 0]) 10 80 Tryd.underlying33 hi hz0 hz1 hz2 rfl (by decide) _ _ _ rfl (hown'.out.alloc _) ⟨wr.heap.size, 0, none⟩ 1 1 (rqV (rqL 3)) rfl rfl (World.news_of_block (t := 55) (fr := (0, 0)) (heap_alloc_new wr _)) (by simp [Value.oneCell', rqV]) (by unfold maxLen; omega) (by omega) (by simp; omega) ?_); intro v7 w7 hown7 hgrow7 hnil7)
      have hB7 := (hbw'.out.alloc hsz _).grown hgrow7 (by simp; omega) (fun r e => by have := hro.out _ e; omega)
      rw [← flatQ_snoc] at hown7
      have hl7 : (T ++ [rqL 3]).length = N + 1 := by rw [List.length_append, hN'.out]; rfl
      rw [← hl7] at hown7
      have ht7 := TabO.of (hok'.out.snoc (rqL_chk (ld := 3) (by omega) (by omega))) (by rw [hl7]; omega) hown7
      have hm7 : lenV v7 = N + 1 := by
        obtain ⟨x7, c7, rfl, _⟩ := ownSlice hown7
        exact hl7
      have hgs := hgrow7.size
      clear hown7 hgrow7 hnil7
      go_roundw
      case rel => exact ⟨ht7, by have := hgs; simp at this; omega, hB7⟩
      case measure =>
        show 6 - lenV v7 < 6 - N
        omega
    · have hR := Lib.hid (show Rqs wr.heap.size wr (.slice x N c) T from Rqs.of_owns (by rw [hN'.out]; exact hown) rfl (Nat.le_refl _))
      obtain ⟨_, _, e, hc1, hc2⟩ := ownSlice hown
      cases e
      unfold maxLen at hc1
      clear hown hws hbase
      obtain ⟨w3, hw3⟩ : ∃ w3, wr = w3 := ⟨_, rfl⟩
      subst hw3
      have hM' := hM.out wr hbw
      clear hM
      go_wp2_with fail
      refine hM'.mono ?_
      clear hM'
      rintro e w4 ⟨⟨v', rfl, l, k, hL, hD, hk6, -⟩, hb4⟩
      have hB4 := hbw.trans (hb4.mono hsz)
      have hT4 := Lib.hid (hR.out.on hb4)
      have htz := told_drawn hD hk6 hok'.out (by rw [hN'.out]; omega)
      have hll : l.length ≤ 12 := by have := hD.2.1; omega
      have hP := Profile_all v' (.slice x N c) l T (by omega) (hD.nums hk6) w4 (hsg.on hB4) hL hT4.out
      rw [htz, prof_told htz] at hP
      obtain ⟨y, L, cl, rfl, hLl, hy0, hlc1, hlc2⟩ := hL.opened
      rw [hLl.out] at hll
      unfold maxLen at hlc2
      have hL4 := Lib.hid hL
      have htz' := Lib.hid htz
      have hD' := Lib.hid hD
      have hgt := Lib.hid (told_bits htz).2.2
      have hopn := Lib.hid (fun k0 w' (hb' : Below w4.heap.size w4 w') => Open_any (.slice y L cl) l (by rw [hLl.out]; omega) (hD.nums hk6) k0 w' (hL.on hb'))
      clear hD htz hL hb4 hbw hR hy0
      go_wp2_with fail
      refine hP.mono ?_
      clear hP
      rintro e w5 ⟨⟨a, rfl, ha, -, -⟩, hb5⟩
      have hB5 := hB4.trans (hb5.mono hB4.size)
      have hT5 := Lib.hid (hT4.out.on hb5)
      have hL5 := Lib.hid (hL4.out.on hb5)
      have ha5 := Lib.hid ha
      obtain ⟨za, na, ca, rfl, hna, hac1, hac2⟩ := ha.opened
      have hnL : na = L := by rw [← hna.out, prof_length, hLl.out]
      subst hnL
      unfold maxLen at hac2
      have hop5 := Lib.hid (fun k0 w' (hb' : Below w5.heap.size w5 w') => hopn.out k0 w' (hb5.trans (hb'.mono hb5.size)))
      have hl4 := hb5.size
      clear ha hb5 hB4 hT4 hL4 hopn hna
      go_wp2
      go_loopw [9, 10] (fun nw i wr => ∃ k : Nat, k ≤ na ∧ i = .int .i64 k ∧ nw = .int .i64 (acc T (l.take k)) ∧ Below w5.heap.size w5 wr) (fun _ i _ => na - (intOf i).toNat)
      case atStart => exact ⟨0, by omega, rfl, by simp [acc], Below.refl _ _⟩
      case round =>
        obtain ⟨k, hk, rfl, rfl, hbw⟩ := hrel
        have hBw := hB5.trans (hbw.mono hB5.size)
        have hws := hbw.size
        by_cases hlt : k < na
        · obtain ⟨s, hs⟩ : ∃ s, l[k]? = some s := ⟨l[k]'(by rw [hLl.out]; exact hlt), List.getElem?_eq_getElem _⟩
          obtain ⟨g, o, rfl, hg, c0, c1⟩ := Row.stop (hL5.out.on hbw) hs
          obtain ⟨q, hq, q1, q2, q3, q4⟩ := hgt.out s (List.mem_of_getElem? hs)
          have hst := Lib.hid (show acc T (l.take (k + 1)) = acc T (l.take k) + sg s.2 * q.ld by rw [takeA hs, acc_snoc]; unfold stN; rw [ldR_get hq])
          have hab := acc_bd htz'.out (k := k) (by rw [hLl.out]; omega)
          have hab2 := acc_bd htz'.out (k := k + 1) (by rw [hLl.out]; omega)
          have hacc := Lib.hid (acc_open T (told_bits htz'.out).1 (k + 1) (by rw [hLl.out]; omega))
          have hpk := prof_get (t := T) (l := l) (k := k) (by rw [hLl.out]; omega)
          have hop := hop5.out ((k : Int) + 1) wr hbw
          rw [show (k : Int) + 1 = ((k + 1 : Nat) : Int) by omega, opAt_of (by rw [hLl.out]; omega)] at hop
          have hget := Lib.hid (fun r hr => open_get (k := k + 1) (r := r) htz'.out hr)
          have hsb := Lib.hid (fun j => sum_take_bd htz'.out (k + 1) j)
          have holn := Lib.hid (open_len htz'.out (k + 1))
          obtain ⟨O, hO⟩ : ∃ O, opL (l.take (k + 1)) = O := ⟨_, rfl⟩
          rw [hO] at hop hacc holn
          simp only [hO] at hget hsb
          clear hO
          rw [show ((k + 1 : Nat) : Int) = (k : Int) + 1 by omega] at hop
          obtain ⟨g3, o3, rfl, hg3, e0⟩ := Ints.number (ha5.out.on hbw) hpk
          obtain ⟨A2, hA2⟩ : ∃ A, acc T (l.take (k + 1)) = A := ⟨_, rfl⟩
          obtain ⟨A1, hA1⟩ : ∃ A, acc T (l.take k) = A := ⟨_, rfl⟩
          rw [hA2] at hab2 hst hacc e0
          rw [hA1] at hab hst
          rw [hA1]
          have hA2' := Lib.hid hA2
          obtain ⟨s1, s2⟩ := s
          simp only at c0 c1 hst hq q1 q2 q4
          obtain ⟨n1, rfl⟩ : ∃ n : Nat, s1 = n := ⟨s1.toNat, by omega⟩
          simp only [Int.toNat_natCast] at hq
          obtain ⟨g2, o2, rfl, hg2, d0, d1, d2, d3, d4, d5, d6, d7, d8, d9⟩ := Rqs.at (hT5.out.on hbw) hq
          have hnt : n1 < N := by rw [hN'.out] at q2; omega
          obtain ⟨d, hd⟩ : ∃ d, q.ld = d := ⟨_, rfl⟩
          rw [hd] at q3 d8 hst
          have hnL := hLl.out
          clear hpk hs hq hA2 hA1 hd d0 d1 d2 d3 d4 d5 d6 d7 d9 q1 q2
          cases hk1 : (s2 == 1)
          · have hs2 : s2 = 0 := by
              have : s2 ≠ 1 := by simpa using hk1
              omega
            subst hs2
            have hst2 := Lib.hid (show A1 + d = A2 by have := hst.out; simp [sg] at this; omega)
            clear hst q4
            go_upto_region 18 with fail
            rw [hst2.out]
            clear hst2
            go_wp2_with fail
            refine hop.mono ?_
            clear hop
            rintro e w6 ⟨⟨v2, rfl, hv2, -⟩, hb6⟩
            have hB6 := hbw.trans (hb6.mono hws)
            have hv2' := Lib.hid hv2
            obtain ⟨xo, M, co, rfl, hM, hoc1, hoc2⟩ := hv2.opened
            unfold maxLen at hoc2
            have e0' := (hb6.cell (p := ⟨g3, o3 + k, none⟩) (by show g3 < wr.heap.size; omega)).trans e0
            have hT6 := Lib.hid ((hT5.out.on hbw).on hb6)
            clear hv2 hb6 hbw c0 c1 d8 e0 hBw
            go_wp2
            go_loopw [12, 14] (fun a i wq => ∃ j : Nat, j ≤ M ∧ i = .int .i64 j ∧ a = .int .i64 (sumL T (O.take j)) ∧ wq = w6) (fun _ i _ => M - (intOf i).toNat)
            case atStart => exact ⟨0, by omega, rfl, by simp [sumL], rfl⟩
            case round =>
              obtain ⟨j, hj, rfl, rfl, rfl⟩ := hrel
              by_cases hlt2 : j < M
              · obtain ⟨r, hr⟩ : ∃ r, O[j]? = some r := ⟨O[j]'(by rw [hM.out]; exact hlt2), List.getElem?_eq_getElem _⟩
                obtain ⟨g4, o4, rfl, hg4, c0⟩ := Ints.number hv2'.out hr
                obtain ⟨q5, hq5, f1, f2, f3, f4⟩ := hget.out r (List.mem_of_getElem? hr)
                have hsn : Hid (sumL T (O.take (j + 1)) = sumL T (O.take j) + q5.ld) := Lib.hid (by rw [takeA hr, sumL_snoc, ldR_get hq5])
                obtain ⟨b1, b2⟩ := hsb.out j
                clear hr
                obtain ⟨n5, rfl⟩ : ∃ n : Nat, r = n := ⟨r.toNat, by omega⟩
                simp only [Int.toNat_natCast] at hq5
                obtain ⟨g5, o5, eg, _, d0, d1, d2, d3, d4, d5, d6, d7, d8, d9⟩ := Rqs.at hT6.out hq5
                simp only [Option.some.injEq, Addr.mk.injEq] at eg
                obtain ⟨rfl, rfl, _⟩ := eg
                have hnt5 : n5 < N := by rw [hN'.out] at f2; omega
                obtain ⟨S, hS⟩ : ∃ S, sumL T (O.take j) = S := ⟨_, rfl⟩
                rw [hS] at b1 b2 hsn ⊢
                obtain ⟨d', hd⟩ : ∃ d, q5.ld = d := ⟨_, rfl⟩
                rw [hd] at f3 f4 d8 hsn
                clear hq5 hS hd d0 d1 d2 d3 d4 d5 d6 d7 d9 f2
                go_wp2
                go_roundw
                case rel => exact ⟨j + 1, by omega, by go_num, by rw [hsn.out], trivial⟩
                case measure => simp [intOf]; omega
              · obtain rfl : j = M := by omega
                have he : sumL T (O.take j) = A2 := by rw [hacc.out, ← hM.out, List.take_length]
                rw [he]
                clear he
                have t1 : decide (A2 < 0) = false := by simp; omega
                go_wp2
                go_roundw
                case rel => exact ⟨k + 1, by omega, by go_num, by rw [hA2'.out], hB6⟩
                case measure => simp [intOf]; omega
          · have hs2 : s2 = 1 := by simpa using hk1
            subst hs2
            have hst2 := Lib.hid (show A1 + -d = A2 by have := hst.out; simp [sg] at this; omega)
            clear hst q4
            go_upto_region 18 with fail
            rw [hst2.out]
            clear hst2
            go_wp2_with fail
            refine hop.mono ?_
            clear hop
            rintro e w6 ⟨⟨v2, rfl, hv2, -⟩, hb6⟩
            have hB6 := hbw.trans (hb6.mono hws)
            have hv2' := Lib.hid hv2
            obtain ⟨xo, M, co, rfl, hM, hoc1, hoc2⟩ := hv2.opened
            unfold maxLen at hoc2
            have e0' := (hb6.cell (p := ⟨g3, o3 + k, none⟩) (by show g3 < wr.heap.size; omega)).trans e0
            have hT6 := Lib.hid ((hT5.out.on hbw).on hb6)
            clear hv2 hb6 hbw c0 c1 d8 e0 hBw
            go_wp2
            go_loopw [12, 14] (fun a i wq => ∃ j : Nat, j ≤ M ∧ i = .int .i64 j ∧ a = .int .i64 (sumL T (O.take j)) ∧ wq = w6) (fun _ i _ => M - (intOf i).toNat)
            case atStart => exact ⟨0, by omega, rfl, by simp [sumL], rfl⟩
            case round =>
              obtain ⟨j, hj, rfl, rfl, rfl⟩ := hrel
              by_cases hlt2 : j < M
              · obtain ⟨r, hr⟩ : ∃ r, O[j]? = some r := ⟨O[j]'(by rw [hM.out]; exact hlt2), List.getElem?_eq_getElem _⟩
                obtain ⟨g4, o4, rfl, hg4, c0⟩ := Ints.number hv2'.out hr
                obtain ⟨q5, hq5, f1, f2, f3, f4⟩ := hget.out r (List.mem_of_getElem? hr)
                have hsn : Hid (sumL T (O.take (j + 1)) = sumL T (O.take j) + q5.ld) := Lib.hid (by rw [takeA hr, sumL_snoc, ldR_get hq5])
                obtain ⟨b1, b2⟩ := hsb.out j
                clear hr
                obtain ⟨n5, rfl⟩ : ∃ n : Nat, r = n := ⟨r.toNat, by omega⟩
                simp only [Int.toNat_natCast] at hq5
                obtain ⟨g5, o5, eg, _, d0, d1, d2, d3, d4, d5, d6, d7, d8, d9⟩ := Rqs.at hT6.out hq5
                simp only [Option.some.injEq, Addr.mk.injEq] at eg
                obtain ⟨rfl, rfl, _⟩ := eg
                have hnt5 : n5 < N := by rw [hN'.out] at f2; omega
                obtain ⟨S, hS⟩ : ∃ S, sumL T (O.take j) = S := ⟨_, rfl⟩
                rw [hS] at b1 b2 hsn ⊢
                obtain ⟨d', hd⟩ : ∃ d, q5.ld = d := ⟨_, rfl⟩
                rw [hd] at f3 f4 d8 hsn
                clear hq5 hS hd d0 d1 d2 d3 d4 d5 d6 d7 d9 f2
                go_wp2
                go_roundw
                case rel => exact ⟨j + 1, by omega, by go_num, by rw [hsn.out], trivial⟩
                case measure => simp [intOf]; omega
              · obtain rfl : j = M := by omega
                have he : sumL T (O.take j) = A2 := by rw [hacc.out, ← hM.out, List.take_length]
                rw [he]
                clear he
                have t1 : decide (A2 < 0) = false := by simp; omega
                go_wp2
                go_roundw
                case rel => exact ⟨k + 1, by omega, by go_num, by rw [hA2'.out], hB6⟩
                case measure => simp [intOf]; omega
        · obtain rfl : k = na := by omega
          have he : acc T (l.take k) = 0 := by rw [← hLl.out, List.take_length]; exact acc_last T hD'.out.1
          rw [he]
          go_wp2
          go_ret
          exact ⟨rfl, hBw⟩

set_option maxRecDepth 100000 in
theorem lifted (os : Os) (started : os.Started) (H : Type) (enc : TypeId × Value → H) :
    ReturnsInHanded {} Tryd.checked os 4 .any (fun w args => (Rows.loadFlowsSpec.pre enc Tryd.prog Tryd.f4 [] false w args ∧ laidMetH Tryd.prog Rows.loadFlowsRow.laid w) ∧ sizedMet enc Tryd.prog Tryd.f4 (OpenSpec.ofChange Rows.loadFlowsSpec) false w args)
      (Rows.loadFlowsSpec.post enc Tryd.prog Tryd.f4 false true false false) := by
  refine returnsInHanded_of_change_and (C := Tryd.checked) (X := fun w _ => laidMetH Tryd.prog Rows.loadFlowsRow.laid w) (fun _ _ _ hh h => h.of_heap hh) own started (by kernel_rfl) Tryd.func4
    (ChangeSpec.witness_shaped (enc := enc) (C := Tryd.checked) (os := os) (X := fun w _ => laidMetH Tryd.prog Rows.loadFlowsRow.laid w) false (World.doorLaid Tryd.prog 400 os) #[.slice none 0 0, .slice none 0 0] 8 rfl (World.shaped_of_RefB (by kernel_rfl) (by kernel_rfl)) (by kernel_rfl) (by kernel_rfl) (by kernel_rfl) (door_met os _)) ?_
  intro W base args ds gs before hval0 hW _ _ hL _
  have hval : ∀ (j : Nat) t v, Tryd.f4.params[j]? = some t → args[j]? = some v → Value.okWide Tryd.prog W .any base t v := hval0
  have hW' := hW
  obtain ⟨p, q, hA0, hV, rfl, hfz, hnd⟩ := hW
  have hA : DataW.TrodAll enc Tryd.prog W 0 (fun _ => true) true Tryd.f4.params.toList args.toList ds p := hA0
  rw [Tryd.params4] at hA hval
  obtain ⟨v0, vs0, d0, ds0, p0, q0, hargs, rfl, rfl, h0, r0⟩ := trodAll_cons hA
  obtain ⟨v1, vs1, d1, ds1, p1, q1, rfl, rfl, rfl, h1, r1⟩ := trodAll_cons r0
  obtain ⟨rfl, rfl, rfl⟩ := trodAll_nil r1
  obtain rfl : args = #[v0, v1] := by cases args; simp_all
  obtain ⟨rfl, rfl⟩ := trodVars_none hV
  obtain ⟨ns, hns, hn⟩ := openWords (hval 0 _ _ rfl rfl) h0
  obtain ⟨bs, hbs, hb⟩ := openBytes (hval 1 _ _ rfl rfl) h1
  exact (walk v0 v1 ns bs hn hb W (sg_of_laid hL) hns hbs).mono fun e W' ⟨he, hb⟩ => ⟨_, he, Close.law_post laidOut (by kernel_rfl) rfl (by kernel_rfl) Tryd.underlying4 hW' rfl hb⟩

theorem over : Rows.LoadFlowsSaid :=
  OpenClaim.holds_of_wide 4 Tryd.f4 rfl rfl rfl rfl rfl rfl rfl ⟨rfl, rfl, rfl, rfl, rfl⟩ rfl rfl rfl rfl rfl (by kernel_rfl) Tryd.func4 (by kernel_rfl)
    (of_decide_eq_true (by kernel_rfl)) (by unfold Func.isWrapper; first | (rw [if_pos (by decide +kernel)]; kernel_rfl) | (rw [if_neg (by decide +kernel)]; exact ⟨rfl, rfl⟩))
    (fun os started H enc _ => lifted os started H enc)

theorem proved : Rows.LoadFlowsCardSaid :=
  Claim7.holds_tied_plain_at .later [] [.data] true _ false
    over (fun _ h => by cases h) (by kernel_rfl) (fun _ h => by cases h) loadFlows_row_tie rfl ⟨rfl, rfl⟩ (by kernel_rfl) rfl
    (fun f fn hf hfn => by
      obtain rfl : f = 4 := Option.some.inj ((show Tryd.prog.funcNamed "consign/consignlaw08.LoadFlows" = some 4 by kernel_rfl).symm.trans hf) |>.symm
      obtain rfl : fn = Tryd.f4 := (Option.some.inj (Tryd.func4.symm.trans hfn)).symm
      exact ⟨by kernel_rfl, fun j t ht => by
        rw [Tryd.params4] at ht
        have hm : t ∈ [22, 23] := by simpa using Array.mem_of_getElem? ht
        have hall : ([22, 23].all fun u => !Tryd.prog.wantsStandIn u) = true := by kernel_rfl
        exact (show Tryd.prog.wantsStandIn t = false by simpa using List.all_eq_true.1 hall t hm)⟩)
    (by kernel_rfl)
#print axioms proved

end Go.Proofs.YtphfjaelglafnaaDoor.loadFlows

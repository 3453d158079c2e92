import Derived.Test.YteefkijmodcijaaDoorPkFeasRefC
import Derived.Test.YteefkijmodcijaaDoorPkFeasLessMath

/-
  The document's answer: may a vehicle, all requests, and a route be, and is it never too full?
-/
namespace Go.Proofs.YteefkijmodcijaaDoor.Feas
open Go.RowKit Go.Sort Go.Proofs.YteefkijmodcijaaDoor.Mem Go.Proofs.YteefkijmodcijaaDoor.Route Go.Proofs.YteefkijmodcijaaDoor.When Go.Proofs.YteefkijmodcijaaDoor.Load Go.Proofs.YteefkijmodcijaaDoor.Place
set_option linter.unusedVariables false

def mayB (v : Vh) (l : List (Int × Int)) (t : List Rq) : Bool := decide (v.chk = 0) && decide (checkV l = 0) && decide (∀ q ∈ t, q.chk = 0) && decide (∀ s ∈ l, s.1 < (t.length : Int)) && boardB v.cp t [] l
theorem may_iff {v : Vh} {l : List (Int × Int)} {t : List Rq} : mayB v l t = true ↔ v.chk = 0 ∧ checkV l = 0 ∧ (∀ q ∈ t, q.chk = 0) ∧ (∀ s ∈ l, s.1 < (t.length : Int)) ∧ boardB v.cp t [] l = true := by
  simp only [mayB, Bool.and_eq_true, decide_eq_true_eq, and_assoc]
theorem may_no {v : Vh} {l : List (Int × Int)} {t : List Rq} (h : ¬ (v.chk = 0 ∧ checkV l = 0 ∧ (∀ q ∈ t, q.chk = 0) ∧ (∀ s ∈ l, s.1 < (t.length : Int)) ∧ boardB v.cp t [] l = true)) : mayB v l t = false := by
  cases e : mayB v l t
  · rfl
  · exact absurd (may_iff.1 e) h
theorem board_take {c : Int} {t : List Rq} : ∀ {l pre : List (Int × Int)}, boardB c t pre l = true ↔ ∀ k, k < l.length → acc t (pre ++ l.take (k + 1)) ≤ c
  | [], pre => ⟨fun _ k h => by simp at h, fun _ => rfl⟩
  | s :: l, pre => by
    rw [boardB, Bool.and_eq_true, decide_eq_true_eq, board_take (l := l) (pre := pre ++ [s])]
    constructor
    · rintro ⟨h1, h2⟩ k hk
      cases k with
      | zero => simpa using h1
      | succ k => have := h2 k (by simpa using hk); simpa using this
    · intro h
      refine ⟨by simpa using h 0 (by simp), fun k hk => ?_⟩
      have := h (k + 1) (by simpa using hk)
      simpa using this

set_option maxRecDepth 100000 in
set_option maxHeartbeats 4000000 in
theorem May_any (v : Vh) (vl vt : Value) (l : List (Int × Int)) (t : List Rq) (hl : l.length ≤ 100) (w : World) (hL : Row w.heap.size w vl l) (hT : Rqs w.heap.size w vt t) :
    Calls Tryd.prog 33 #[.agg #[.int .i64 v.hx, .int .i64 v.hy, .int .i64 v.cp, .int .i64 v.st, .int .i64 v.en], vl, vt] w fun e w' => e = .returned (.bool (mayB v l t)) ∧ Below w.heap.size w w' := by
  obtain ⟨xt, Nt, capt, rfl, hNt, htc1, htc2, ht0⟩ := hT.opened
  obtain ⟨xl, N, capl, rfl, hN', h0', hlc1, hlc2⟩ := hL.opened
  obtain ⟨q, hq⟩ : ∃ q, w.heap.size = q := ⟨_, rfl⟩
  have hlN : N ≤ 100 := by rw [← hN'.out]; exact hl
  have hNt' := Lib.hid hNt
  rw [hq] at hL hT ⊢
  have hL' := Lib.hid hL
  have hT' := Lib.hid hT
  have hq' := Lib.hid hq
  have hl' := Lib.hid hl
  unfold maxLen at htc2 hlc2
  obtain ⟨w1, hw1⟩ : ∃ w1, w.alloc (.cells #[.int .i64 v.hx, .int .i64 v.hy, .int .i64 v.cp, .int .i64 v.st, .int .i64 v.en] 34) = w1 := ⟨_, rfl⟩
  have hV : At w1 q 34 #[.int .i64 v.hx, .int .i64 v.hy, .int .i64 v.cp, .int .i64 v.st, .int .i64 v.en] := by rw [← hw1]; exact At.new_ _ _ _ hq.symm
  have hB : Below q w w1 := by rw [← hw1]; exact (Below.refl _ _).alloc (by omega) _
  have hw1' := Lib.hid hw1
  clear hT hNt ht0 hL hl h0' hw1 hq
  have hrow : Hid (∀ W, Below q w W → Row W.heap.size W (.slice xl N capl) l) := Lib.hid fun W hW => (hL'.out.keep hW (Nat.le_refl _)).more (by have := hW.size; have := hq'.out; omega)
  have htab : Hid (∀ W, Below q w W → Rqs W.heap.size W (.slice xt Nt capt) t) := Lib.hid fun W hW => (hT'.out.keep hW (Nat.le_refl _)).more (by have := hW.size; have := hq'.out; omega)
  clear hL' hT'
  have hno := Lib.hid (may_no (v := v) (l := l) (t := t))
  have hyes := Lib.hid (may_iff (v := v) (l := l) (t := t))
  obtain ⟨R, hR⟩ : ∃ R, mayB v l t = R := ⟨_, rfl⟩
  rw [hR] at hno hyes ⊢
  go_enter Tryd.func33, Tryd.ntmps33
  go_upto_region 1 with fail
  simp only [hq'.out]
  rw [hw1'.out]
  have p0 := hV.cell 0
  have p1 := hV.cell 1
  have p2 := hV.cell 2
  have p3 := hV.cell 3
  have p4 := hV.cell 4
  simp at p0 p1 p2 p3 p4
  obtain ⟨V, hVc⟩ : ∃ V, v.chk = V := ⟨_, rfl⟩
  obtain ⟨C, hC⟩ : ∃ C, checkV l = C := ⟨_, rfl⟩
  have hVc' := Lib.hid hVc
  have hC' := Lib.hid hC
  clear hVc hC
  go_cut [17] from 10 to 17 (fun s wx => s = .bool (!(decide (V = 0) && decide (C = 0))) ∧ Below w1.heap.size w1 wx)
  case first =>
    go_wp2_with fail
    refine (refVeh v w1).mono ?_
    clear p0 p1 p2 p3 p4
    rintro e w2 ⟨rfl, hb2⟩
    rw [hVc'.out]
    cases hv0 : (V == 0)
    · have hv1 : (V != 0) = true := by simpa using hv0
      have hx : (!(decide (V = 0) && decide (C = 0))) = true := by rw [decide_eq_false (by simpa using hv0)]; rfl
      go_wp2
      all_goals go_meet
      exact ⟨by rw [hx], hb2⟩
    · have hv1 : (V != 0) = false := by simpa using hv0
      have hc := Route.refCheck_any _ l (by have := hl'.out; omega) w2 (hrow.out _ (hB.trans (hb2.mono (by have := hV.inside; omega))))
      rw [hC'.out] at hc
      go_wp2_with fail
      refine hc.mono ?_
      clear hc
      rintro e w3 ⟨rfl, hb3⟩
      have hb23 := hb2.trans (hb3.mono hb2.size)
      cases hc0 : (C == 0)
      · have hc1 : (C != 0) = true := by simpa using hc0
        have hx : (!(decide (V = 0) && decide (C = 0))) = true := by rw [decide_eq_false (p := C = 0) (by simpa using hc0), Bool.and_false]; rfl
        go_wp2
        all_goals go_meet
        exact ⟨by rw [hx], hb23⟩
      · have hc1 : (C != 0) = false := by simpa using hc0
        have hx : (!(decide (V = 0) && decide (C = 0))) = false := by rw [decide_eq_true (p := C = 0) (by simpa using hc0), decide_eq_true (by simpa using hv0)]; rfl
        go_wp2
        all_goals go_meet
        exact ⟨by rw [hx], hb23⟩
  case rest =>
  obtain ⟨rfl, hbc⟩ := hcut
  obtain ⟨w2, rfl⟩ : ∃ w2, w2 = wc := ⟨_, rfl⟩
  replace hB := hB.trans (hbc.mono (by have := hV.inside; omega))
  replace hV := hV.keep hbc hV.inside
  clear hbc p0 p1 p2 p3 p4 hw1'
  by_cases hvc : V = 0 ∧ C = 0
  case neg =>
    have hx : (!(decide (V = 0) && decide (C = 0))) = true := by
      rw [← Bool.decide_and, decide_eq_false hvc]; rfl
    have hF := Lib.hid (hno.out fun h => hvc ⟨by rw [← hVc'.out]; exact h.1, by rw [← hC'.out]; exact h.2.1⟩)
    rw [hx]
    clear hx hvc hR
    go_wp2
    go_ret
    exact ⟨Route.ret_bool hF.out.symm, hB⟩
  case pos =>
  have hx : (!(decide (V = 0) && decide (C = 0))) = false := by
    rw [← Bool.decide_and, decide_eq_true hvc]; rfl
  rw [hx]
  have hvc' : Hid (v.chk = 0 ∧ checkV l = 0) := Lib.hid ⟨by rw [hVc'.out]; exact hvc.1, by rw [hC'.out]; exact hvc.2⟩
  clear hx hvc hR
  go_wp2
  go_loopw [7] (fun i wr => ∃ k : Nat, i = .int .i64 k ∧ k ≤ Nt ∧ (∀ (j : Nat) (q : Rq), j < k → t[j]? = some q → q.chk = 0) ∧ At wr q 34 #[.int .i64 v.hx, .int .i64 v.hy, .int .i64 v.cp, .int .i64 v.st, .int .i64 v.en] ∧ Below q w wr) (fun i _ => Nt - (intOf i).toNat)
  case atStart => exact ⟨0, rfl, Nat.zero_le _, fun j q hj => by omega, hV, hB⟩
  case round =>
    clear hV hB
    obtain ⟨k, rfl, hk, hall, hV, hB⟩ := hrel
    by_cases hlt : k < Nt
    · obtain ⟨y, hy⟩ : ∃ y, t[k]? = some y := ⟨t[k]'(by rw [hNt'.out]; exact hlt), List.getElem?_eq_getElem _⟩
      obtain ⟨g, o, rfl, hg, c0, c1, c2, c3, c4, c5, c6, c7, c8, c9⟩ := Rqs.at (htab.out _ hB) hy
      have hy' := Lib.hid hy
      have hall' := Lib.hid hall
      have hlti : (k : Int) < Nt := by omega
      clear hy hall
      go_wp2_with fail
      refine (refReq y _).mono ?_
      rintro e w3 ⟨rfl, hb3⟩
      replace hB := hB.trans (hb3.mono (by have := hV.inside; omega))
      replace hV := hV.keep hb3 hV.inside
      clear hb3 c0 c1 c2 c3 c4 c5 c6 c7 c8 c9
      obtain ⟨Q, hQ⟩ : ∃ Q, y.chk = Q := ⟨_, rfl⟩
      rw [hQ]
      have hQ' := Lib.hid hQ
      clear hQ
      cases hq0 : (Q == 0)
      · have hq1 : (Q != 0) = true := by simpa using hq0
        have hF := Lib.hid (hno.out fun h => by
          have h2 := h.2.2.1 y (List.mem_of_getElem? hy'.out)
          rw [hQ'.out] at h2
          simp [h2] at hq0)
        go_wp2
        go_ret
        exact ⟨Route.ret_bool hF.out.symm, hB⟩
      · have hq1 : (Q != 0) = false := by simpa using hq0
        have hz2 : Hid (y.chk = 0) := Lib.hid (by rw [hQ'.out]; simpa using hq0)
        go_wp2
        go_roundw
        case rel =>
          refine ⟨k + 1, by go_num, hlt, fun j r hj hr => ?_, hV, hB⟩
          rcases Nat.lt_or_ge j k with h | h
          · exact hall'.out j r h hr
          · obtain rfl : j = k := by omega
            rw [hy'.out] at hr
            cases hr
            exact hz2.out
        case measure => simp [intOf]; omega
    · obtain rfl : k = Nt := by omega
      have hall' : Hid (∀ q ∈ t, q.chk = 0) := Lib.hid (fun y hy => by
        obtain ⟨j, hj⟩ := List.mem_iff_getElem?.1 hy
        exact hall j y (by have := (List.getElem?_eq_some_iff.1 hj).1; rw [hNt'.out] at this; omega) hj)
      clear hall
      go_wp2
      obtain ⟨wo, rfl⟩ : ∃ wo, wo = wr := ⟨_, rfl⟩
      go_loopw [8] (fun i wr => ∃ k : Nat, i = .int .i64 k ∧ k ≤ N ∧ Hid (∀ (j : Nat) (s : Int × Int), j < k → l[j]? = some s → s.1 < (t.length : Int)) ∧ At wr q 34 #[.int .i64 v.hx, .int .i64 v.hy, .int .i64 v.cp, .int .i64 v.st, .int .i64 v.en] ∧ Below q w wr) (fun i _ => N - (intOf i).toNat)
      case atStart => exact ⟨0, rfl, Nat.zero_le _, Lib.hid (fun j s hj => by omega), hV, hB⟩
      case round =>
        clear hV hB
        obtain ⟨j, rfl, hj, hW, hV, hB⟩ := hrel
        by_cases hlt : j < N
        · obtain ⟨⟨s1, s2⟩, hs⟩ : ∃ s, l[j]? = some s := ⟨l[j]'(by rw [hN'.out]; exact hlt), List.getElem?_eq_getElem _⟩
          have hs' := Lib.hid hs
          obtain ⟨g, o, rfl, hg, c0, c1⟩ := Row.stop (hrow.out _ hB) hs
          simp only at c0 c1
          have hlti : (j : Int) < N := by omega
          clear hs
          by_cases hge : (k : Int) ≤ s1
          · have hF := Lib.hid (hno.out fun h => by
              have h2 := h.2.2.2.1 _ (List.mem_of_getElem? hs'.out)
              simp only at h2
              have := hNt'.out
              omega)
            go_wp2
            go_ret
            exact ⟨Route.ret_bool hF.out.symm, hB⟩
          · have hlt2 : Hid (s1 < (t.length : Int)) := Lib.hid (by have := hNt'.out; omega)
            go_wp2
            go_roundw
            case rel =>
              refine ⟨j + 1, by go_num, hlt, Lib.hid (fun i r hi hr => ?_), hV, hB⟩
              rcases Nat.lt_or_ge i j with h | h
              · exact hW.out i r h hr
              · obtain rfl : i = j := by omega
                rw [hs'.out] at hr
                cases hr
                exact hlt2.out
            case measure => simp [intOf]; omega
        · obtain rfl : j = N := by omega
          have hin' : Hid (∀ s ∈ l, s.1 < (t.length : Int)) := Lib.hid (fun s hs => by
            obtain ⟨i, hi⟩ := List.mem_iff_getElem?.1 hs
            exact hW.out i s (by have := (List.getElem?_eq_some_iff.1 hi).1; rw [hN'.out] at this; omega) hi)
          have hins : Hid (Ins t l) := Lib.hid (fun s hs => ⟨(isR_iff.1 (check_isR hvc'.out.2).1 s hs).1, hin'.out s hs⟩)
          clear hW
          go_wp2
          obtain ⟨wo2, rfl⟩ : ∃ wo, wo = wr := ⟨_, rfl⟩
          go_loopw [9] (fun i wr => ∃ k : Nat, i = .int .i64 k ∧ k ≤ j ∧ Hid (∀ m, m < k → acc t ([] ++ l.take (m + 1)) ≤ v.cp) ∧ At wr q 34 #[.int .i64 v.hx, .int .i64 v.hy, .int .i64 v.cp, .int .i64 v.st, .int .i64 v.en] ∧ Below q w wr) (fun i _ => j - (intOf i).toNat)
          case atStart => exact ⟨0, rfl, Nat.zero_le _, Lib.hid (fun m hm => by omega), hV, hB⟩
          case round =>
            clear hV hB
            obtain ⟨i, rfl, hi, hW, hV, hB⟩ := hrel
            by_cases hlt : i < j
            · have hlti : (i : Int) < j := by omega
              have hqs : q ≤ wr.heap.size := by have := hV.inside; omega
              have hi1 : i + 1 ≤ capl := by omega
              have hi2 : i ≤ 100 := by omega
              have hcut : Hid (∀ W, Below q w W → Row W.heap.size W (.slice xl (i + 1) capl) (l.take (i + 1))) := Lib.hid fun W hW => (hrow.out W hW).cutTo hN'.out (show i + 1 ≤ j by omega)
              have hc := fun d os => Calls.regrown_of (Board_any _ _ (l.take (i + 1)) t (by rw [List.length_take]; omega) hall'.out (fun s hs => hins.out s (List.mem_of_mem_take hs)) (grow (redrawn wr d) os) (hcut.out _ (hB.trans ((below_regrown wr d os).mono hqs))) (htab.out _ (hB.trans ((below_regrown wr d os).mono hqs))))
              obtain ⟨E, hE⟩ : ∃ E, acc t (l.take (i + 1)) = E := ⟨_, rfl⟩
              rw [hE] at hc
              have hE' := Lib.hid hE
              have p2 := hV.cell 2
              simp at p2
              have k2 := cell_regrown p2
              clear hE
              go_upto_region 16 with fail
              refine wp_region_quiet_below (by kernel_rfl) (by kernel_rfl) ?_
              repeat (go_big_quiet_step (with_reducible exact hc _ _))
              refine wpQuiet_nil ?_
              intro _ hw'
              obtain ⟨⟨dq, osq⟩, hw''⟩ := hw'
              subst hw''
              have hbg := below_regrown wr dq osq
              replace hV := hV.keep hbg hV.inside
              replace hB := hB.trans (hbg.mono hqs)
              clear hc p2 k2 hbg hqs
              generalize grow (redrawn wr dq) osq = w5 at *
              by_cases hlt2 : v.cp < E
              · have hF := Lib.hid (hno.out fun h => by
                  have h2 := board_take.1 h.2.2.2.2 i (by rw [hN'.out]; exact hlt)
                  rw [List.nil_append, hE'.out] at h2
                  omega)
                go_wp2
                go_ret
                exact ⟨Route.ret_bool hF.out.symm, hB⟩
              · have hnx : Hid (∀ m, m < i + 1 → acc t ([] ++ l.take (m + 1)) ≤ v.cp) := Lib.hid (fun m hm => by
                  rcases Nat.lt_or_ge m i with h | h
                  · exact hW.out m h
                  · obtain rfl : m = i := by omega
                    rw [List.nil_append, hE'.out]
                    omega)
                go_wp2
                go_roundw
                case rel => exact ⟨i + 1, by go_num, hlt, hnx, hV, hB⟩
                case measure => simp [intOf]; omega
            · obtain rfl : i = j := by omega
              have hF := Lib.hid (hyes.out.2 ⟨hvc'.out.1, hvc'.out.2, hall'.out, hin'.out, board_take.2 (fun m hm => hW.out m (by rw [hN'.out] at hm; exact hm))⟩)
              go_wp2
              go_ret
              exact ⟨Route.ret_bool hF.out.symm, hB⟩

end Go.Proofs.YteefkijmodcijaaDoor.Feas

import Derived.Test.YtfoflfeaegfnnaaPkWhenRef

/-
  The contract of the document's Wrong.
-/
namespace Go.Proofs.Ytfoflfeaegfnnaa.When
open Go.RowKit Go.Sort Go.Proofs.Ytfoflfeaegfnnaa.Mem Go.Proofs.Ytfoflfeaegfnnaa.Route Go.Proofs.Ytfoflfeaegfnnaa.Place Go.Proofs.Ytfoflfeaegfnnaa.Window Go.Proofs.Ytfoflfeaegfnnaa.Order
set_option linter.unusedVariables false

theorem refReq (q : Rq) (w : World) : Calls Try.prog 44 #[.agg #[.int .i64 q.fx, .int .i64 q.fy, .int .i64 q.tx, .int .i64 q.ty, .int .i64 q.pe, .int .i64 q.pl, .int .i64 q.de, .int .i64 q.dl, .int .i64 q.ld, .int .i64 q.sv]] w
    fun e w' => e = .returned (.int .i64 q.chk) ∧ Below w.heap.size w w' := Order.refCheck_any _ _ _ _ _ _ _ _ _ _ w
theorem refVeh (v : Vh) (w : World) : Calls Try.prog 43 #[.agg #[.int .i64 v.hx, .int .i64 v.hy, .int .i64 v.cp, .int .i64 v.st, .int .i64 v.en]] w
    fun e w' => e = .returned (.int .i64 v.chk) ∧ Below w.heap.size w w' := Order.refVehicle_any _ _ _ _ _ w

set_option maxRecDepth 100000 in
set_option maxHeartbeats 4000000 in
theorem refWrong_any (v : Vh) (vl vt : Value) (l : List (Int × Int)) (t : List Rq) (hl : l.length ≤ 1000000) (hnum : Nums l) (w : World) (hL : Row w.heap.size w vl l) (hT : Rqs w.heap.size w vt t) :
    Calls Try.prog 28 #[.agg #[.int .i64 v.hx, .int .i64 v.hy, .int .i64 v.cp, .int .i64 v.st, .int .i64 v.en], vl, vt] w fun e w' => e = .returned (.int .i64 (wrongV v l t)) ∧ Below w.heap.size w w' := by
  have hR := fun w' (hb : Below w.heap.size w w') => Route.refCheck_any vl l hl w' (hL.on hb)
  have hv := refVeh v
  have hP : At (w.alloc (.cells #[.int .i64 v.hx, .int .i64 v.hy, .int .i64 v.cp, .int .i64 v.st, .int .i64 v.en] 31)) w.heap.size 31 #[.int .i64 v.hx, .int .i64 v.hy, .int .i64 v.cp, .int .i64 v.st, .int .i64 v.en] := At.new _ _ _
  have hb0 : Below w.heap.size w (w.alloc (.cells #[.int .i64 v.hx, .int .i64 v.hy, .int .i64 v.cp, .int .i64 v.st, .int .i64 v.en] 31)) := (Below.refl _ _).alloc (Nat.le_refl _) _
  obtain ⟨xl, Nl, capl, rfl, hNl, hl0, hlc1, hlc2⟩ := hL.opened
  obtain ⟨xt, Nt, capt, rfl, hNt0, htc1, htc2, ht0⟩ := hT.opened
  have hNt := Lib.hid hNt0
  clear hNt0 ht0
  unfold maxLen at htc2 hlc2
  obtain ⟨E, hE⟩ : ∃ E, wrongV v l t = E := ⟨_, rfl⟩
  obtain ⟨C, hC⟩ : ∃ C, Route.checkV l = C := ⟨_, rfl⟩
  obtain ⟨V, hV⟩ : ∃ V, v.chk = V := ⟨_, rfl⟩
  rw [hE]
  simp only [hC] at hR
  simp only [hV] at hv
  have hL' := Lib.hid hL
  have hT' := Lib.hid hT
  have hE' := Lib.hid hE
  have hC' := Lib.hid hC
  have hV' := Lib.hid hV
  have hR' := Lib.hid hR
  clear hl hnum hL hT hE hC hV hR
  go_enter Try.func28, Try.ntmps28
  go_wp2_with fail
  refine (hv _).mono ?_
  rintro e w1 ⟨rfl, hb1⟩
  have hB := hb0.trans (hb1.mono hb0.size)
  clear hb0 hb1 hP hv
  cases hv0 : (V == 0)
  · have hv1 : (V != 0) = true := by simpa using hv0
    have hw := Lib.hid (wrong_v (l := l) (t := t) (show v.chk ≠ 0 by rw [hV'.out]; simpa using hv0))
    go_wp2
    go_ret
    exact ⟨Route.ret_int (by rw [← hE'.out, hw.out]), hB⟩
  · have hv1 : (V != 0) = false := by simpa using hv0
    have hz : Hid (v.chk = 0) := Lib.hid (by rw [hV'.out]; simpa using hv0)
    go_wp2
    go_loopw [7] (fun i wr => ∃ k : Nat, i = .int .i64 k ∧ k ≤ Nt ∧ (∀ (j : Nat) (q : Rq), j < k → t[j]? = some q → q.chk = 0) ∧ Below w.heap.size w wr) (fun i _ => Nt - (intOf i).toNat)
    case atStart => exact ⟨0, rfl, Nat.zero_le _, fun j q hj => by omega, hB⟩
    case round =>
      obtain ⟨k, rfl, hk, hall, hbw⟩ := hrel
      clear hB
      by_cases hlt : k < Nt
      · obtain ⟨q, hq⟩ : ∃ q, t[k]? = some q := ⟨t[k]'(by rw [hNt.out]; exact hlt), List.getElem?_eq_getElem _⟩
        obtain ⟨g, o, rfl, hg, c0, c1, c2, c3, c4, c5, c6, c7, c8, c9⟩ := Rqs.at (hT'.out.keep hbw (Nat.le_refl _)) hq
        have hq' := Lib.hid hq
        have hall' := Lib.hid hall
        clear hq hall
        have hbA := hbw
        go_wp2_with fail
        refine (refReq q _).mono ?_
        rintro e w3 ⟨rfl, hb3⟩
        have hB3 := hbA.trans (hb3.mono hbA.size)
        clear hb3 hbA hbw c0 c1 c2 c3 c4 c5 c6 c7 c8 c9
        obtain ⟨Q, hQ⟩ : ∃ Q, q.chk = Q := ⟨_, rfl⟩
        rw [hQ]
        have hQ' := Lib.hid hQ
        clear hQ
        cases hq0 : (Q == 0)
        · have hq1 : (Q != 0) = true := by simpa using hq0
          have hw := Lib.hid (wrong_q (v := v) (l := l) hq'.out (by rw [hQ'.out]; simpa using hq0))
          go_wp2
          go_ret
          exact ⟨Route.ret_int (by rw [← hE'.out, hw.out]), hB3⟩
        · have hq1 : (Q != 0) = false := by simpa using hq0
          have hz2 : Hid (q.chk = 0) := Lib.hid (by rw [hQ'.out]; simpa using hq0)
          go_wp2
          go_roundw
          case rel =>
            refine ⟨k + 1, by go_num, hlt, fun j r hj hr => ?_, hB3⟩
            rcases Nat.lt_or_ge j k with h | h
            · exact hall'.out j r h hr
            · obtain rfl : j = k := by omega
              rw [hq'.out] at hr
              cases hr
              exact hz2.out
          case measure => simp [intOf]; omega
      · obtain rfl : k = Nt := by omega
        have hall' : Hid (∀ (j : Nat) (q : Rq), t[j]? = some q → q.chk = 0) := Lib.hid (fun j q hq => hall j q (by have := (List.getElem?_eq_some_iff.1 hq).1; rw [hNt.out] at this; omega) hq)
        clear hall
        go_wp2_with fail
        refine (hR'.out _ hbw).mono ?_
        rintro e w3 ⟨rfl, hb3⟩
        have hB3 := hbw.trans (hb3.mono hbw.size)
        clear hb3 hbw
        cases hc0 : (C == 0)
        · have hc1 : (C != 0) = true := by simpa using hc0
          have hw := Lib.hid (wrong_r (l := l) hz.out hall'.out (by rw [hC'.out]; simpa using hc0))
          go_wp2
          go_ret
          exact ⟨Route.ret_int (by rw [← hE'.out, hw.out]), hB3⟩
        · have hc1 : (C != 0) = false := by simpa using hc0
          have hz3 : Hid (Route.checkV l = 0) := Lib.hid (by rw [hC'.out]; simpa using hc0)
          go_wp2
          go_loopw [8] (fun i wr => ∃ k : Nat, i = .int .i64 k ∧ k ≤ Nl ∧ (∀ (j : Nat) (s : Int × Int), j < k → l[j]? = some s → visB t s = true) ∧ Below w.heap.size w wr) (fun i _ => Nl - (intOf i).toNat)
          case atStart => exact ⟨0, rfl, Nat.zero_le _, fun j q hj => by omega, hB3⟩
          case round =>
            clear hB3
            obtain ⟨k2, rfl, hk2, hal2, hbw⟩ := hrel
            by_cases hlt : k2 < Nl
            · obtain ⟨s, hs⟩ : ∃ s, l[k2]? = some s := ⟨l[k2]'(by rw [hNl.out]; exact hlt), List.getElem?_eq_getElem _⟩
              obtain ⟨g, o, rfl, hg, c0, c1⟩ := Row.stop (hL'.out.keep hbw (Nat.le_refl _)) hs
              have hs' := Lib.hid hs
              have hal' := Lib.hid hal2
              clear hs hal2
              have hbA := hbw
              have hvi := refPlace_any s.1 s.2 _ t _ (hT'.out.on hbA)
              go_wp2_with fail
              refine hvi.mono ?_
              clear hvi
              rintro e w4 ⟨rfl, hb4⟩
              have hB4 := hbA.trans (hb4.mono hbA.size)
              clear hb4 hbA hbw c0 c1
              cases hvb : visB t (s.1, s.2)
              · have hw := Lib.hid (wrong_s hz.out hall'.out hs'.out hvb)
                have hB5 := hB4.alloc hB4.size (.cells #[.int .i64 (visV t (s.1, s.2)).px, .int .i64 (visV t (s.1, s.2)).py] 29)
                go_wp2
                go_ret
                exact ⟨Route.ret_int (by rw [← hE'.out, hw.out]), hB5⟩
              · have hvb' := Lib.hid hvb
                have hB5 := hB4.alloc hB4.size (.cells #[.int .i64 (visV t (s.1, s.2)).px, .int .i64 (visV t (s.1, s.2)).py] 29)
                clear hvb
                go_wp2
                go_roundw
                case rel =>
                  refine ⟨k2 + 1, by go_num, hlt, fun j r hj hr => ?_, hB5⟩
                  rcases Nat.lt_or_ge j k2 with h | h
                  · exact hal'.out j r h hr
                  · obtain rfl : j = k2 := by omega
                    rw [hs'.out] at hr
                    cases hr
                    exact hvb'.out
                case measure => simp [intOf]; omega
            · obtain rfl : k2 = Nl := by omega
              have hw := Lib.hid (wrong_no (l := l) hz.out hall'.out hz3.out (fun j s hs => hal2 j s (by have := (List.getElem?_eq_some_iff.1 hs).1; rw [hNl.out] at this; omega) hs))
              clear hal2
              go_wp2
              go_ret
              exact ⟨Route.ret_int (by rw [← hE'.out, hw.out]), hbw⟩

end Go.Proofs.Ytfoflfeaegfnnaa.When

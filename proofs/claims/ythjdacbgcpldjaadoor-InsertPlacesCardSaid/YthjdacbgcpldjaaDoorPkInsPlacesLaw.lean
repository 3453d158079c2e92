import Derived.Test.YthjdacbgcpldjaaDoorPkUpB
import Derived.Test.YthjdacbgcpldjaaDoorPkInsBits
import Derived.Lib.QuietBelow

/-
  InsertPlaces returns true, whatever the numbers and memory are.
-/
namespace Go.Proofs.YthjdacbgcpldjaaDoor.Ins
open Go.RowKit Go.Sort Go.Shelf Go.Proofs.YthjdacbgcpldjaaDoor.Mem Go.Proofs.YthjdacbgcpldjaaDoor.Route Go.Proofs.YthjdacbgcpldjaaDoor.When Go.Proofs.YthjdacbgcpldjaaDoor.Load
set_option linter.unusedVariables false

theorem takeV_zero (n : Int) : takeV n 0 = pairsL n := by simp [takeV]
theorem takeV_len (n m : Int) (h : 0 ≤ m) : ((takeV n (1 + m)).length : Int) = min (1 + m) ((pairsL n).length : Int) := by
  unfold takeV
  rw [if_pos (by omega), List.length_take]
  omega
theorem takeV_get {n m : Int} (h : 0 ≤ m) {k : Nat} (hk : k < (takeV n (1 + m)).length) : (takeV n (1 + m))[k]? = (pairsL n)[k]? := by
  unfold takeV at *
  rw [if_pos (by omega)] at *
  rw [List.length_take] at hk
  rw [List.getElem?_take, if_pos (by omega)]

set_option maxRecDepth 100000 in
set_option maxHeartbeats 8000000 in
theorem insertPlaces_any (n m : Int) (hm : 0 ≤ m ∧ m < 256) (w : World) (hsg : Sg w) : Calls Tryd.prog 5 #[.int .i64 n, .int .u8 m] w fun e w' => e = .returned (.bool true) ∧ Below w.heap.size w w' := by
  have hmw : IntKind.i64.wrap m = m := IntWalk.i64_in _ (by omega)
  go_enter Tryd.func5, Tryd.ntmps5
  go_wp2_with fail
  refine (refPlaces_any n w).mono ?_
  rintro e w1 ⟨⟨u, rfl, hu⟩, hb1⟩
  go_wp2_with fail
  refine (pairs_any n (1 + m) w1).mono ?_
  rintro e w2 ⟨⟨u2, rfl, hu2⟩, hb2⟩
  go_wp2_with fail
  refine (pairs_any n 0 w2).mono ?_
  rintro e w3 ⟨⟨u3, rfl, hu3⟩, hb3⟩
  rw [takeV_zero] at hu3
  have hR1 := (hu.on hb2).on hb3
  have hR2 := hu2.on hb3
  have hB3 := (hb1.trans (hb2.mono hb1.size)).trans (hb3.mono (Nat.le_trans hb1.size hb2.size))
  have hsg3 := ((hsg.on hb1).on hb2).on hb3
  clear hu hu2 hb1 hb2 hb3 hsg
  obtain ⟨x1, L, c1, rfl, hL, _, hc11, hc12⟩ := hR1.opened
  obtain ⟨x2, S, c2, rfl, hS, _, hc21, hc22⟩ := hR2.opened
  obtain ⟨x3, L', c3, rfl, hL', _, hc31, hc32⟩ := hu3.opened
  obtain rfl : L' = L := hL'.out.symm.trans hL.out
  have hL153 : L' ≤ 153 := by rw [← hL.out]; exact pairsL_len n
  have hSm : (S : Int) = min (1 + m) (L' : Int) := by rw [← hS.out, ← hL.out]; exact takeV_len n m hm.1
  have hget : Hid (∀ k, k < S → (takeV n (1 + m))[k]? = (pairsL n)[k]?) := Lib.hid (fun k hk => takeV_get hm.1 (by rw [hS.out]; exact hk))
  unfold maxLen at hc12 hc22 hc32
  have hR1' := Lib.hid hR1
  have hR2' := Lib.hid hR2
  have hR3' := Lib.hid hu3
  have hB3' := Lib.hid hB3
  have hsg3' := Lib.hid hsg3
  have hSL : S ≤ L' := by omega
  have h1m : (-9223372036854775808 ≤ 1 + m ∧ 1 + m ≤ 9223372036854775807) := by omega
  clear hR1 hR2 hu3 hB3 hsg3
  go_wp2_with fail
  clear hSm h1m
  go_loopw [8] (fun i wr => ∃ k : Nat, k ≤ L' ∧ i = .int .i64 k ∧ Below w3.heap.size w3 wr)
    (fun i _ => L' - (intOf i).toNat)
  case atStart => exact ⟨0, Nat.zero_le _, rfl, Below.refl _ _⟩
  case round =>
    obtain ⟨k, hk, rfl, hbw⟩ := hrel
    by_cases hlt : k < L'
    · obtain ⟨⟨a, b⟩, hs⟩ : ∃ s, (pairsL n)[k]? = some s := ⟨(pairsL n)[k]'(by rw [hL.out]; exact hlt), List.getElem?_eq_getElem _⟩
      obtain ⟨g1, o1, rfl, hg1, d1, e1⟩ := Row.stop (hR1'.out.keep hbw (Nat.le_refl _)) hs
      obtain ⟨g3, o3, rfl, hg3, d3, e3⟩ := Row.stop (hR3'.out.keep hbw (Nat.le_refl _)) hs
      simp at d1 e1 d3 e3
      have hNg : Hid (k + 1 ≤ L') := Lib.hid hlt
      have hkb : (k : Int) < (L' : Int) := by omega
      have he2 := eq2_same
      have hkt : decide (k < L') = true := by simpa using hlt
      by_cases hkS : k < S
      · have hs2 := (hget.out k hkS).trans hs
        obtain ⟨g2, o2, rfl, hg2, d2, e2⟩ := Row.stop (hR2'.out.keep hbw (Nat.le_refl _)) hs2
        simp at d2 e2
        have hkSi : (k : Int) < (S : Int) := by omega
        have hks : decide (k < S) = true := by simpa using hkS
        have hbw' := Lib.hid hbw
        clear hs hs2 hlt hbw
        go_upto_region 9 with fail
        go_quiet (fail)
        have hB4 := Place.below_drewN hbw'.out nq
        clear hbw' he2 d1 d2 d3 e1 e2 e3
        go_wp2
        go_roundw
        case rel => exact ⟨k + 1, hNg.out, by go_num, hB4⟩
        case measure => simp [intOf]; omega
      · have hkSi : ¬ (k : Int) < (S : Int) := by omega
        have hks : decide (k < S) = false := by simpa using hkS
        have hbw' := Lib.hid hbw
        clear hs hlt hbw
        go_upto_region 9 with fail
        go_quiet (fail)
        have hB4 := Place.below_drewN hbw'.out nq
        clear hbw' he2 d1 d3 e1 e3
        go_wp2
        go_roundw
        case rel => exact ⟨k + 1, hNg.out, by go_num, hB4⟩
        case measure => simp [intOf]; omega
    · obtain rfl : k = L' := by omega
      have hB4 := hB3'.out.trans (hbw.mono hB3'.out.size)
      have hw := works_any wr (hsg3'.out.on hbw)
      have hB4' := Lib.hid hB4
      clear hbw hB4
      go_wp2_with fail
      refine hw.mono ?_
      clear hw
      rintro e w5 ⟨rfl, hb5⟩
      have hB5 := hB4'.out.trans (hb5.mono hB4'.out.size)
      clear hb5
      go_wp2
      go_ret
      exact ⟨rfl, hB5⟩

end Go.Proofs.YthjdacbgcpldjaaDoor.Ins

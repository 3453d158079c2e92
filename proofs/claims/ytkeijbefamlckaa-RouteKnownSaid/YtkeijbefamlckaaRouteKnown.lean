/-
  The chapter's examples hold; the longest route is one, and one more is none; kinds and numbers that are none, and rows that are no routes, are told. Conditions: none.
-/
import Derived.Test.YtkeijbefamlckaaRouteWorks
import Derived.Test.YtkeijbefamlckaaClose
namespace Go.Proofs.Ytkeijbefamlckaa.routeKnown
open Go.ChangeShapes Go.WideShapes Go.ChangeAt Go.RowKit Go.Proofs.Ytkeijbefamlckaa.Mem Go.Proofs.Ytkeijbefamlckaa.Route
set_option linter.unusedVariables false

def upP (k : Nat) : List (Int × Int) := (List.range k).map fun (i : Nat) => ((i : Int), 0)
def upD (k : Nat) : List (Int × Int) := (List.range k).map fun (i : Nat) => ((i : Int), 1)
def fullR : List (Int × Int) := upP 8 ++ upD 8
def moreR : List (Int × Int) := fullR ++ [(8, 0), (8, 1)]
theorem upP_succ (k : Nat) : upP (k + 1) = upP k ++ [((k : Int), 0)] := by simp [upP, List.range_succ]
theorem upD_succ (k : Nat) : upD (k + 1) = upD k ++ [((k : Int), 1)] := by simp [upD, List.range_succ]
theorem upP_length (k : Nat) : (upP k).length = k := by simp [upP]
theorem upD_length (k : Nat) : (upD k).length = k := by simp [upD]
theorem owns_empty {W : World} {base n : Nat} {e : TypeId} (hn : n = W.heap.size) (hb : base ≤ n) : (W.alloc (.cells #[] e)).ownsRow base e 2 (.slice (some ⟨n, 0, none⟩) 0 0) 0 [] := by
  subst hn
  exact ⟨rfl, .inr ⟨W.heap.size, 0, #[], rfl, hb, heap_alloc_new W _, Nat.le_refl _, Nat.zero_le _, rfl, rfl⟩⟩

set_option maxRecDepth 100000 in
set_option maxHeartbeats 8000000 in
theorem walk (w : World) : Calls Try.prog 7 #[] w fun e w' => e = .returned (.bool true) ∧ Below w.heap.size w w' := by
  obtain ⟨i0, hi, hz0, hz1, hz2⟩ := info_parts info_stop
  go_enter Try.func7, Try.ntmps7
  go_wp2_with fail
  go_loopw [1, 2] (fun u i wr => ∃ k : Nat, k ≤ 8 ∧ i = .int .i64 k ∧ wr.ownsRow w.heap.size 27 2 u k (flatS (upP k)) ∧ Below w.heap.size w wr) (fun _ i _ => 8 - (intOf i).toNat)
  case atStart => exact ⟨0, by omega, rfl, by simpa [upP, flatS] using World.ownsRow_nil _ _ _ _, Below.refl _ _⟩
  case round =>
    obtain ⟨k, hk, rfl, hown, hbw⟩ := hrel
    by_cases hlt : k < 8
    · have t8 : decide ((k : Int) < 8) = true := by simp; omega
      have hsz := hbw.size
      have hup := Lib.hid (upP_succ k)
      go_wp2_with (first | (go_at_call 23; refine (p_any _ _).mono ?_; rintro e w' ⟨rfl, rfl⟩) | (at_builtin; refine wpList_append_own _ rfl _ _ 22 rfl w.heap.size 27 i0 (.agg #[.int .i64 0, .int .i64 0]) 2 16 Try.underlying22 hi hz0 hz1 hz2 rfl (by decide) _ _ _ rfl ((hown.alloc _).alloc _) ⟨wr.heap.size + 1, 0, none⟩ 1 1 [.int .i64 k, .int .i64 0] rfl rfl (World.news_of_block (cs := #[.int .i64 k, .int .i64 0]) (t := 27) (fr := (0, 0)) (by simpa using heap_alloc_new (wr.alloc _) _)) (by simp [Value.oneCell']) (by unfold maxLen; omega) (by omega) (by simp; omega) ?_; intro v7 w7 hown7 hgrow7 hnil7))
      have hb7 : Below w.heap.size w w7 := (bAlloc (bAlloc hbw _) _).grown hgrow7 (by simp; omega) (owns_row hown)
      go_roundw
      case rel => exact ⟨k + 1, by omega, by go_num, by rw [hup.out, flatS_snoc]; exact hown7, hb7⟩
      case measure => simp [intOf]; omega
    · obtain rfl : k = 8 := by omega
      go_wp2_with fail
      generalize hwr : wr = w2 at *
      clear hwr wr
      simp only [show ((8 : Nat) : Int) = 8 from rfl]
      go_loopw [1, 3] (fun u i wr => ∃ k : Nat, k ≤ 8 ∧ i = .int .i64 k ∧ wr.ownsRow w.heap.size 27 2 u (8 + k) (flatS (upP 8 ++ upD k)) ∧ Below w.heap.size w wr) (fun _ i _ => 8 - (intOf i).toNat)
      case atStart => exact ⟨0, by omega, rfl, by simpa [upD] using hown, hbw⟩
      case round =>
        clear hown hbw
        obtain ⟨k, hk, rfl, hown, hbw⟩ := hrel
        by_cases hlt : k < 8
        · have t8 : decide ((k : Int) < 8) = true := by simp; omega
          have hsz := hbw.size
          have hup := Lib.hid (upD_succ k)
          go_wp2_with (first | (go_at_call 24; refine (d_any _ _).mono ?_; rintro e w' ⟨rfl, rfl⟩) | (at_builtin; refine wpList_append_own _ rfl _ _ 22 rfl w.heap.size 27 i0 (.agg #[.int .i64 0, .int .i64 0]) 2 16 Try.underlying22 hi hz0 hz1 hz2 rfl (by decide) _ _ _ rfl ((hown.alloc _).alloc _) ⟨wr.heap.size + 1, 0, none⟩ 1 1 [.int .i64 k, .int .i64 1] rfl rfl (World.news_of_block (cs := #[.int .i64 k, .int .i64 1]) (t := 27) (fr := (0, 0)) (by simpa using heap_alloc_new (wr.alloc _) _)) (by simp [Value.oneCell']) (by unfold maxLen; omega) (by omega) (by simp; omega) ?_; intro v7 w7 hown7 hgrow7 hnil7))
          have hb7 : Below w.heap.size w w7 := (bAlloc (bAlloc hbw _) _).grown hgrow7 (by simp; omega) (owns_row hown)
          go_roundw
          case rel => exact ⟨k + 1, by omega, by go_num, by rw [hup.out, ← List.append_assoc, flatS_snoc]; exact hown7, hb7⟩
          case measure => simp [intOf]; omega
        · obtain rfl : k = 8 := by omega
          generalize hwr : wr = wf at *
          clear hwr wr
          have hfull : Hid (Row wf.heap.size wf u1 fullR) := Lib.hid (Row.of_owns (l := fullR) hown rfl (Nat.le_refl _))
          obtain ⟨yf, cf, rfl⟩ : ∃ y c, u1 = .slice y 16 c := by
            obtain ⟨y, c, e, _⟩ := hfull.out.slice
            exact ⟨y, c, e⟩
          have hplain := hfull.out.plain
          have hsf := hbw.size
          clear hown hk hlt
          go_upto_region 10 with fail
          have hF2 := Lib.hid (hfull.out.on (bAlloc (Below.refl _ _) (.cells #[] 27)))
          go_upto_region 11 with (at_builtin; refine wpList_append_plain rfl _ _ 22 rfl wf.heap.size 27 i0 (.agg #[.int .i64 0, .int .i64 0]) 2 16 Try.underlying22 hi hz0 hz1 hz2 rfl (by decide) _ _ _ rfl (owns_empty (W := wf) rfl (Nat.le_refl _)) (.slice yf 16 cf) 16 ⟨_, _, rfl⟩ hplain (flatS fullR) rfl (by decide) (fun ad c e => by have h := hF2.out; rw [e] at h; exact h.flat) flatS_one (by unfold maxLen; omega) (by omega) (by simp) ?_; intro v5 w5 hown5 hgrow5; (go_upto_region 11 with (first | (go_at_call 23; refine (p_any _ _).mono ?_; rintro e w' ⟨rfl, rfl⟩) | (go_at_call 24; refine (d_any _ _).mono ?_; rintro e w' ⟨rfl, rfl⟩) | (at_builtin; refine wpList_append_own _ rfl _ _ 22 rfl wf.heap.size 27 i0 (.agg #[.int .i64 0, .int .i64 0]) 2 16 Try.underlying22 hi hz0 hz1 hz2 rfl (by decide) _ _ _ rfl (((hown5.alloc _).alloc _).alloc _) ⟨w5.heap.size + 1 + 1, 0, none⟩ 2 2 [.int .i64 8, .int .i64 0, .int .i64 8, .int .i64 1] rfl rfl (World.news_of_block (cs := #[.int .i64 8, .int .i64 0, .int .i64 8, .int .i64 1]) (t := 27) (fr := (0, 0)) (by simpa using heap_alloc_new ((w5.alloc _).alloc _) _)) (by simp [Value.oneCell']) (by unfold maxLen; omega) (by omega) (by have := hgrow5.size; simp at this ⊢; omega) ?_; intro v6 w6 hown6 hgrow6 hnil6))))

          have hs5 : w.heap.size ≤ w5.heap.size := by have := hgrow5.size; simp at this; omega
          have hBf5 : Below wf.heap.size wf w5 := (bAlloc (Below.refl _ _) _).grown hgrow5 (by simp) (fun r e => by cases e; exact Nat.le_refl _)
          have hBf6 : Below wf.heap.size wf w6 := by
            have h5 : Below wf.heap.size wf (((w5.alloc (.cells #[.int .i64 8, .int .i64 0] 27)).alloc (.cells #[.int .i64 8, .int .i64 1] 27)).alloc (.cells #[.int .i64 8, .int .i64 0, .int .i64 8, .int .i64 1] 27)) := by repeat (first | exact hBf5 | refine bAlloc ?_ _)
            refine h5.grown hgrow6 h5.size (fun r e => ?_)
            exact owns_row hown5 r e
          have hB0 : Below w.heap.size w w6 := bStep hbw hBf6
          have hmore : Hid (Row w6.heap.size w6 v6 moreR) := Lib.hid (Row.of_owns (l := moreR) hown6 rfl (Nat.le_refl _))
          have hful6 : Hid (Row w6.heap.size w6 (.slice yf 16 cf) fullR) := Lib.hid (hfull.out.on hBf6)
          obtain ⟨ym, cm, rfl⟩ : ∃ y c, v6 = .slice y 18 c := by
            obtain ⟨y, c, e, _⟩ := hmore.out.slice
            exact ⟨y, c, e⟩
          clear hown6 hown5 hgrow5 hgrow6 hnil6 hBf5 hBf6 hF2 hplain hfull hbw hsf hs5
          have hlk := Below.refl w6.heap.size w6
          have hmk := Below.refl w6.heap.size w6
          go_wp2_with (first | (go_at_call 23; refine (p_any _ _).mono ?_; rintro e w' ⟨rfl, rfl⟩) | (go_at_call 24; refine (d_any _ _).mono ?_; rintro e w' ⟨rfl, rfl⟩) | (go_at_call 25; refine (row_any _ _ _ _).mono ?_; rintro e w' ⟨rfl, rfl⟩))
          refine Calls.mono (With_any _ fullR 9 0 0 (by decide) _ ?r1x1) ?p1
          case r1x1 => exact (hful6.out.on (by repeat (first | exact hlk | refine bAlloc ?_ _)))
          rintro e x1 ⟨⟨v9, rfl, hv9, _⟩, hb1⟩
          have hB1 : Below w.heap.size w x1 := bStep (by repeat (first | exact hB0 | refine bAlloc ?_ _)) hb1
          have hlk1 : Below w6.heap.size w6 x1 := bStep (by repeat (first | exact hlk | refine bAlloc ?_ _)) hb1
          have hmk1 : Below w6.heap.size w6 x1 := bStep (by repeat (first | exact hmk | refine bAlloc ?_ _)) hb1
          clear hb1
          rw [show mayW fullR 9 0 0 = false by decide +kernel]
          obtain ⟨y9, n9, c9, rfl, _⟩ := hv9.opened
          clear hv9
          go_wp2_with (first | (go_at_call 23; refine (p_any _ _).mono ?_; rintro e w' ⟨rfl, rfl⟩) | (go_at_call 24; refine (d_any _ _).mono ?_; rintro e w' ⟨rfl, rfl⟩) | (go_at_call 25; refine (row_any _ _ _ _).mono ?_; rintro e w' ⟨rfl, rfl⟩))
          refine Calls.mono (At_any _ [(2, 1), (1, 0), (1, 1), (2, 0), (1, 0)] 1 (by decide) _ ?r1x2) ?p2
          case r1x2 => exact Row.laid (by simp) rfl rfl (by decide)
          rintro e x2 ⟨rfl, hb2⟩
          rw [show ixV (1, 0) [(2, 1), (1, 0), (1, 1), (2, 0), (1, 0)] = 1 by decide, show ixV (1, 1) [(2, 1), (1, 0), (1, 1), (2, 0), (1, 0)] = 2 by decide]
          have hB2 : Below w.heap.size w x2 := bStep (by repeat (first | exact hB1 | refine bAlloc ?_ _)) hb2
          have hlk2 : Below w6.heap.size w6 x2 := bStep (by repeat (first | exact hlk1 | refine bAlloc ?_ _)) hb2
          have hmk2 : Below w6.heap.size w6 x2 := bStep (by repeat (first | exact hmk1 | refine bAlloc ?_ _)) hb2
          clear hb2
          go_wp2_with (first | (go_at_call 23; refine (p_any _ _).mono ?_; rintro e w' ⟨rfl, rfl⟩) | (go_at_call 24; refine (d_any _ _).mono ?_; rintro e w' ⟨rfl, rfl⟩) | (go_at_call 25; refine (row_any _ _ _ _).mono ?_; rintro e w' ⟨rfl, rfl⟩))
          refine Calls.mono (At_any _ [(2, 1), (1, 0)] 2 (by decide) _ ?r1x3) ?p3
          case r1x3 => exact Row.laid (by simp) rfl rfl (by decide)
          rintro e x3 ⟨rfl, hb3⟩
          rw [show ixV (2, 0) [(2, 1), (1, 0)] = -1 by decide, show ixV (2, 1) [(2, 1), (1, 0)] = 0 by decide]
          have hB3 : Below w.heap.size w x3 := bStep (by repeat (first | exact hB2 | refine bAlloc ?_ _)) hb3
          have hlk3 : Below w6.heap.size w6 x3 := bStep (by repeat (first | exact hlk2 | refine bAlloc ?_ _)) hb3
          have hmk3 : Below w6.heap.size w6 x3 := bStep (by repeat (first | exact hmk2 | refine bAlloc ?_ _)) hb3
          clear hb3
          go_upto_region 14 with (first | (go_at_call 23; refine (p_any _ _).mono ?_; rintro e w' ⟨rfl, rfl⟩) | (go_at_call 24; refine (d_any _ _).mono ?_; rintro e w' ⟨rfl, rfl⟩) | (go_at_call 25; refine (row_any _ _ _ _).mono ?_; rintro e w' ⟨rfl, rfl⟩))
          simp only [List.append_eq, List.cons_append, List.nil_append]
          go_wp2_with (first | (go_at_call 23; refine (p_any _ _).mono ?_; rintro e w' ⟨rfl, rfl⟩) | (go_at_call 24; refine (d_any _ _).mono ?_; rintro e w' ⟨rfl, rfl⟩) | (go_at_call 25; refine (row_any _ _ _ _).mono ?_; rintro e w' ⟨rfl, rfl⟩))
          refine Calls.mono (works_any _) ?p4
          rintro e x4 ⟨rfl, hb4⟩
          have hB4 : Below w.heap.size w x4 := bStep (by repeat (first | exact hB3 | refine bAlloc ?_ _)) hb4
          have hlk4 : Below w6.heap.size w6 x4 := bStep (by repeat (first | exact hlk3 | refine bAlloc ?_ _)) hb4
          have hmk4 : Below w6.heap.size w6 x4 := bStep (by repeat (first | exact hmk3 | refine bAlloc ?_ _)) hb4
          clear hb4
          go_wp2_with (first | (go_at_call 23; refine (p_any _ _).mono ?_; rintro e w' ⟨rfl, rfl⟩) | (go_at_call 24; refine (d_any _ _).mono ?_; rintro e w' ⟨rfl, rfl⟩) | (go_at_call 25; refine (row_any _ _ _ _).mono ?_; rintro e w' ⟨rfl, rfl⟩))
          refine Calls.mono (Check_any _ [] (by decide) (nums_of (by decide +kernel)) _ ?r1x5) ?p5
          case r1x5 => exact RowB.nil _ _ _
          rintro e x5 ⟨rfl, hb5⟩
          rw [show checkV [] = 0 by decide +kernel]
          have hB5 : Below w.heap.size w x5 := bStep (by repeat (first | exact hB4 | refine bAlloc ?_ _)) hb5
          have hlk5 : Below w6.heap.size w6 x5 := bStep (by repeat (first | exact hlk4 | refine bAlloc ?_ _)) hb5
          have hmk5 : Below w6.heap.size w6 x5 := bStep (by repeat (first | exact hmk4 | refine bAlloc ?_ _)) hb5
          clear hb5
          go_wp2_with (first | (go_at_call 23; refine (p_any _ _).mono ?_; rintro e w' ⟨rfl, rfl⟩) | (go_at_call 24; refine (d_any _ _).mono ?_; rintro e w' ⟨rfl, rfl⟩) | (go_at_call 25; refine (row_any _ _ _ _).mono ?_; rintro e w' ⟨rfl, rfl⟩))
          refine Calls.mono (Requests_any _ [] (by decide) (nums_of (by decide +kernel)) _ ?r1x6) ?p6
          case r1x6 => exact RowB.nil _ _ _
          rintro e x6 ⟨⟨vr, rfl, hvr⟩, hb6⟩
          have hB6 : Below w.heap.size w x6 := bStep (by repeat (first | exact hB5 | refine bAlloc ?_ _)) hb6
          have hlk6 : Below w6.heap.size w6 x6 := bStep (by repeat (first | exact hlk5 | refine bAlloc ?_ _)) hb6
          have hmk6 : Below w6.heap.size w6 x6 := bStep (by repeat (first | exact hmk5 | refine bAlloc ?_ _)) hb6
          clear hb6
          rw [show reqsL [] = [] by decide +kernel] at hvr
          obtain ⟨yr, cr, rfl, _⟩ := hvr.slice
          clear hvr
          go_wp2_with (first | (go_at_call 23; refine (p_any _ _).mono ?_; rintro e w' ⟨rfl, rfl⟩) | (go_at_call 24; refine (d_any _ _).mono ?_; rintro e w' ⟨rfl, rfl⟩) | (go_at_call 25; refine (row_any _ _ _ _).mono ?_; rintro e w' ⟨rfl, rfl⟩))
          refine Calls.mono (Check_any _ fullR (by decide) (nums_of (by decide +kernel)) _ ?r1x7) ?p7
          case r1x7 => exact (hful6.out.on (by repeat (first | exact hlk6 | refine bAlloc ?_ _)))
          rintro e x7 ⟨rfl, hb7⟩
          rw [show checkV fullR = 0 by decide +kernel]
          have hB7 : Below w.heap.size w x7 := bStep (by repeat (first | exact hB6 | refine bAlloc ?_ _)) hb7
          have hlk7 : Below w6.heap.size w6 x7 := bStep (by repeat (first | exact hlk6 | refine bAlloc ?_ _)) hb7
          have hmk7 : Below w6.heap.size w6 x7 := bStep (by repeat (first | exact hmk6 | refine bAlloc ?_ _)) hb7
          clear hb7
          go_wp2_with (first | (go_at_call 23; refine (p_any _ _).mono ?_; rintro e w' ⟨rfl, rfl⟩) | (go_at_call 24; refine (d_any _ _).mono ?_; rintro e w' ⟨rfl, rfl⟩) | (go_at_call 25; refine (row_any _ _ _ _).mono ?_; rintro e w' ⟨rfl, rfl⟩))
          refine Calls.mono (Check_any _ moreR (by decide) (nums_of (by decide +kernel)) _ ?r1x8) ?p8
          case r1x8 => exact (hmore.out.on (by repeat (first | exact hmk7 | refine bAlloc ?_ _)))
          rintro e x8 ⟨rfl, hb8⟩
          rw [show checkV moreR = 11 by decide +kernel]
          have hB8 : Below w.heap.size w x8 := bStep (by repeat (first | exact hB7 | refine bAlloc ?_ _)) hb8
          have hlk8 : Below w6.heap.size w6 x8 := bStep (by repeat (first | exact hlk7 | refine bAlloc ?_ _)) hb8
          have hmk8 : Below w6.heap.size w6 x8 := bStep (by repeat (first | exact hmk7 | refine bAlloc ?_ _)) hb8
          clear hb8
          go_wp2_with (first | (go_at_call 23; refine (p_any _ _).mono ?_; rintro e w' ⟨rfl, rfl⟩) | (go_at_call 24; refine (d_any _ _).mono ?_; rintro e w' ⟨rfl, rfl⟩) | (go_at_call 25; refine (row_any _ _ _ _).mono ?_; rintro e w' ⟨rfl, rfl⟩))
          refine Calls.mono (Check_any _ [(-1, 0), (-1, 1)] (by decide) (nums_of (by decide +kernel)) _ ?r1x9) ?p9
          case r1x9 => exact Row.laid (by simp) rfl rfl (by decide)
          rintro e x9 ⟨rfl, hb9⟩
          rw [show checkV [(-1, 0), (-1, 1)] = 8 by decide +kernel]
          have hB9 : Below w.heap.size w x9 := bStep (by repeat (first | exact hB8 | refine bAlloc ?_ _)) hb9
          have hlk9 : Below w6.heap.size w6 x9 := bStep (by repeat (first | exact hlk8 | refine bAlloc ?_ _)) hb9
          have hmk9 : Below w6.heap.size w6 x9 := bStep (by repeat (first | exact hmk8 | refine bAlloc ?_ _)) hb9
          clear hb9
          go_wp2_with (first | (go_at_call 23; refine (p_any _ _).mono ?_; rintro e w' ⟨rfl, rfl⟩) | (go_at_call 24; refine (d_any _ _).mono ?_; rintro e w' ⟨rfl, rfl⟩) | (go_at_call 25; refine (row_any _ _ _ _).mono ?_; rintro e w' ⟨rfl, rfl⟩))
          refine Calls.mono (Check_any _ [(0, 2)] (by decide) (nums_of (by decide +kernel)) _ ?r1x10) ?p10
          case r1x10 => exact Row.laid (by simp) rfl rfl (by decide)
          rintro e x10 ⟨rfl, hb10⟩
          rw [show checkV [(0, 2)] = 8 by decide +kernel]
          have hB10 : Below w.heap.size w x10 := bStep (by repeat (first | exact hB9 | refine bAlloc ?_ _)) hb10
          have hlk10 : Below w6.heap.size w6 x10 := bStep (by repeat (first | exact hlk9 | refine bAlloc ?_ _)) hb10
          have hmk10 : Below w6.heap.size w6 x10 := bStep (by repeat (first | exact hmk9 | refine bAlloc ?_ _)) hb10
          clear hb10
          go_wp2_with (first | (go_at_call 23; refine (p_any _ _).mono ?_; rintro e w' ⟨rfl, rfl⟩) | (go_at_call 24; refine (d_any _ _).mono ?_; rintro e w' ⟨rfl, rfl⟩) | (go_at_call 25; refine (row_any _ _ _ _).mono ?_; rintro e w' ⟨rfl, rfl⟩))
          refine Calls.mono (Check_any _ [(0, 0), (0, 0), (0, 1), (0, 1)] (by decide) (nums_of (by decide +kernel)) _ ?r1x11) ?p11
          case r1x11 => exact Row.laid (by simp) rfl rfl (by decide)
          rintro e x11 ⟨rfl, hb11⟩
          rw [show checkV [(0, 0), (0, 0), (0, 1), (0, 1)] = 8 by decide +kernel]
          have hB11 : Below w.heap.size w x11 := bStep (by repeat (first | exact hB10 | refine bAlloc ?_ _)) hb11
          have hlk11 : Below w6.heap.size w6 x11 := bStep (by repeat (first | exact hlk10 | refine bAlloc ?_ _)) hb11
          have hmk11 : Below w6.heap.size w6 x11 := bStep (by repeat (first | exact hmk10 | refine bAlloc ?_ _)) hb11
          clear hb11
          go_wp2_with (first | (go_at_call 23; refine (p_any _ _).mono ?_; rintro e w' ⟨rfl, rfl⟩) | (go_at_call 24; refine (d_any _ _).mono ?_; rintro e w' ⟨rfl, rfl⟩) | (go_at_call 25; refine (row_any _ _ _ _).mono ?_; rintro e w' ⟨rfl, rfl⟩))
          go_wp2_with (first | (go_at_call 23; refine (p_any _ _).mono ?_; rintro e w' ⟨rfl, rfl⟩) | (go_at_call 24; refine (d_any _ _).mono ?_; rintro e w' ⟨rfl, rfl⟩) | (go_at_call 25; refine (row_any _ _ _ _).mono ?_; rintro e w' ⟨rfl, rfl⟩))
          refine Calls.mono (Requests_any _ moreR (by decide) (nums_of (by decide +kernel)) _ ?r1x12) ?p12
          case r1x12 => exact (hmore.out.on (by repeat (first | exact hmk11 | refine bAlloc ?_ _)))
          rintro e x12 ⟨⟨vr, rfl, hvr⟩, hb12⟩
          have hB12 : Below w.heap.size w x12 := bStep (by repeat (first | exact hB11 | refine bAlloc ?_ _)) hb12
          have hlk12 : Below w6.heap.size w6 x12 := bStep (by repeat (first | exact hlk11 | refine bAlloc ?_ _)) hb12
          have hmk12 : Below w6.heap.size w6 x12 := bStep (by repeat (first | exact hmk11 | refine bAlloc ?_ _)) hb12
          clear hb12
          rw [show reqsL moreR = [] by decide +kernel] at hvr
          obtain ⟨yr, cr, rfl, _⟩ := hvr.slice
          clear hvr
          go_wp2_with (first | (go_at_call 23; refine (p_any _ _).mono ?_; rintro e w' ⟨rfl, rfl⟩) | (go_at_call 24; refine (d_any _ _).mono ?_; rintro e w' ⟨rfl, rfl⟩) | (go_at_call 25; refine (row_any _ _ _ _).mono ?_; rintro e w' ⟨rfl, rfl⟩))
          refine Calls.mono (gives_yes _ _ [] [(0, 0), (0, 1)] 0 0 0 (by decide) (by decide) (by decide) _ ?r1x13 ?r2x13) ?p13
          case r1x13 => exact RowB.nil _ _ _
          case r2x13 => exact Row.laid (by simp) rfl rfl (by decide)
          rintro e x13 ⟨rfl, hb13⟩
          have hB13 : Below w.heap.size w x13 := bStep (by repeat (first | exact hB12 | refine bAlloc ?_ _)) hb13
          have hlk13 : Below w6.heap.size w6 x13 := bStep (by repeat (first | exact hlk12 | refine bAlloc ?_ _)) hb13
          have hmk13 : Below w6.heap.size w6 x13 := bStep (by repeat (first | exact hmk12 | refine bAlloc ?_ _)) hb13
          clear hb13
          go_wp2_with (first | (go_at_call 23; refine (p_any _ _).mono ?_; rintro e w' ⟨rfl, rfl⟩) | (go_at_call 24; refine (d_any _ _).mono ?_; rintro e w' ⟨rfl, rfl⟩) | (go_at_call 25; refine (row_any _ _ _ _).mono ?_; rintro e w' ⟨rfl, rfl⟩))
          refine Calls.mono (gives_yes _ _ [] [] (-1) 0 0 (by decide) (by decide) (by decide) _ ?r1x14 ?r2x14) ?p14
          case r1x14 => exact RowB.nil _ _ _
          case r2x14 => exact RowB.nil _ _ _
          rintro e x14 ⟨rfl, hb14⟩
          have hB14 : Below w.heap.size w x14 := bStep (by repeat (first | exact hB13 | refine bAlloc ?_ _)) hb14
          have hlk14 : Below w6.heap.size w6 x14 := bStep (by repeat (first | exact hlk13 | refine bAlloc ?_ _)) hb14
          have hmk14 : Below w6.heap.size w6 x14 := bStep (by repeat (first | exact hmk13 | refine bAlloc ?_ _)) hb14
          clear hb14
          go_wp2_with (first | (go_at_call 23; refine (p_any _ _).mono ?_; rintro e w' ⟨rfl, rfl⟩) | (go_at_call 24; refine (d_any _ _).mono ?_; rintro e w' ⟨rfl, rfl⟩) | (go_at_call 25; refine (row_any _ _ _ _).mono ?_; rintro e w' ⟨rfl, rfl⟩))
          refine Calls.mono (gives_yes _ _ [] [] 0 0 1 (by decide) (by decide) (by decide) _ ?r1x15 ?r2x15) ?p15
          case r1x15 => exact RowB.nil _ _ _
          case r2x15 => exact RowB.nil _ _ _
          rintro e x15 ⟨rfl, hb15⟩
          have hB15 : Below w.heap.size w x15 := bStep (by repeat (first | exact hB14 | refine bAlloc ?_ _)) hb15
          have hlk15 : Below w6.heap.size w6 x15 := bStep (by repeat (first | exact hlk14 | refine bAlloc ?_ _)) hb15
          have hmk15 : Below w6.heap.size w6 x15 := bStep (by repeat (first | exact hmk14 | refine bAlloc ?_ _)) hb15
          clear hb15
          go_wp2_with (first | (go_at_call 23; refine (p_any _ _).mono ?_; rintro e w' ⟨rfl, rfl⟩) | (go_at_call 24; refine (d_any _ _).mono ?_; rintro e w' ⟨rfl, rfl⟩) | (go_at_call 25; refine (row_any _ _ _ _).mono ?_; rintro e w' ⟨rfl, rfl⟩))
          refine Calls.mono (gives_yes _ _ [(5, 0)] [(5, 0), (2, 0), (2, 1)] 2 1 1 (by decide) (by decide) (by decide) _ ?r1x16 ?r2x16) ?p16
          case r1x16 => exact Row.on (W := (x15.alloc (.cells #[.int .i64 5, .int .i64 0] 27)).alloc (.cells #[.int .i64 5, .int .i64 0] 27)) (Row.laid (by simp) rfl rfl (by decide)) (by repeat (first | exact Below.refl _ _ | refine bAlloc ?_ _))
          case r2x16 => exact Row.laid (by simp) rfl rfl (by decide)
          rintro e x16 ⟨rfl, hb16⟩
          have hB16 : Below w.heap.size w x16 := bStep (by repeat (first | exact hB15 | refine bAlloc ?_ _)) hb16
          have hlk16 : Below w6.heap.size w6 x16 := bStep (by repeat (first | exact hlk15 | refine bAlloc ?_ _)) hb16
          have hmk16 : Below w6.heap.size w6 x16 := bStep (by repeat (first | exact hmk15 | refine bAlloc ?_ _)) hb16
          clear hb16
          go_wp2_with (first | (go_at_call 23; refine (p_any _ _).mono ?_; rintro e w' ⟨rfl, rfl⟩) | (go_at_call 24; refine (d_any _ _).mono ?_; rintro e w' ⟨rfl, rfl⟩) | (go_at_call 25; refine (row_any _ _ _ _).mono ?_; rintro e w' ⟨rfl, rfl⟩))
          refine Calls.mono (Without_any _ [(1, 0), (1, 1)] 1 (by decide) _ ?r1x17) ?p17
          case r1x17 => exact Row.laid (by simp) rfl rfl (by decide)
          rintro e x17 ⟨⟨vr, rfl, hvr⟩, hb17⟩
          have hB17 : Below w.heap.size w x17 := bStep (by repeat (first | exact hB16 | refine bAlloc ?_ _)) hb17
          have hlk17 : Below w6.heap.size w6 x17 := bStep (by repeat (first | exact hlk16 | refine bAlloc ?_ _)) hb17
          have hmk17 : Below w6.heap.size w6 x17 := bStep (by repeat (first | exact hmk16 | refine bAlloc ?_ _)) hb17
          clear hb17
          rw [show woL 1 [(1, 0), (1, 1)] = [] by decide] at hvr
          obtain ⟨yr, cr, rfl, _⟩ := hvr.slice
          clear hvr
          go_wp2
          go_ret
          exact ⟨rfl, hB17⟩

set_option maxRecDepth 100000 in
theorem lifted (os : Os) (started : os.Started) (H : Type) (enc : TypeId × Value → H) :
    ReturnsInHanded {} Try.checked os 7 .any (Rows.routeKnownSpec.pre6 enc Try.prog Try.f7 Rows.routeKnownRow.domain false) (Rows.routeKnownSpec.post enc Try.prog Try.f7 false true false false) := by
  refine returnsInHanded_of_change (C := Try.checked) own started (by kernel_rfl) Try.func7
    (ChangeSpec.witness6 (enc := enc) (C := Try.checked) false ⟨#[], #[], []⟩ 8 (by kernel_rfl) (by kernel_rfl) (by kernel_rfl) (by kernel_rfl)) ?_
  intro W base args ds gs before hval0 hW hcnd _
  have hW' := hW
  obtain ⟨p, q, hA0, hV, rfl, hfz, hnd⟩ := hW
  have hA : DataW.TrodAll enc Try.prog W 0 (fun _ => true) true Try.f7.params.toList args.toList ds p := hA0
  rw [Try.params7] at hA
  obtain ⟨rfl, rfl, rfl⟩ := trodAll_none hA
  obtain ⟨rfl, rfl⟩ := trodVars_none hV
  exact (walk W).mono fun e W' ⟨he, hb⟩ => ⟨_, he, Close.law_post laidOut (by kernel_rfl) rfl (by kernel_rfl) Try.underlying4 hW' rfl hb⟩

theorem over : Rows.routeKnownRow.holds Try.pinned (OpenSpec.ofChange Rows.routeKnownSpec) :=
  OpenClaim.holds_of_wide 7 Try.f7 rfl rfl rfl rfl rfl rfl rfl ⟨rfl, rfl, rfl, rfl, rfl⟩ rfl rfl rfl rfl rfl (by kernel_rfl) Try.func7 (by kernel_rfl)
    (of_decide_eq_true (by kernel_rfl)) (by unfold Func.isWrapper; first | (rw [if_pos (by decide +kernel)]; kernel_rfl) | (rw [if_neg (by decide +kernel)]; exact ⟨rfl, rfl⟩))
    (fun os started H enc _ => lifted os started H enc)

theorem proved : Rows.RouteKnownSaid := over
#print axioms proved

end Go.Proofs.Ytkeijbefamlckaa.routeKnown


/-
  OctetReads: a reader answers, step by step, as the document says.
-/
import Derived.Test.YtjjmhkafhbeabaaOctWorks
import Derived.Test.YtjjmhkafhbeabaaOctRefNum
import Derived.Test.YtjjmhkafhbeabaaOctArgs
namespace Go.Proofs.Ytjjmhkafhbeabaa.Oct
open Go.RowKit Go.Sort Go.Proofs.Ytjjmhkafhbeabaa.Mem Go.Proofs.Ytjjmhkafhbeabaa.Route
set_option linter.unusedVariables false
attribute [local go_sem] str_append str_from str_to

def StLe (st : St) : Prop := ∀ l, st = some l → l.length ≤ 9223372036854775000
theorem StLe.num {st : St} (h : StLe st) (k : Int) : StLe (numS st k).2 := by
  intro l hl
  cases st with
  | none => cases hl
  | some l0 =>
    have h0 := h l0 rfl
    simp only [numS] at hl
    split at hl
    · cases hl
      rw [List.length_drop]
      omega
    · cases hl
theorem StLe.text {st : St} (h : StLe st) : StLe (textS st).2 := by
  intro l hl
  cases st with
  | none => cases hl
  | some l0 =>
    have h0 := h l0 rfl
    simp only [textS] at hl
    split at hl
    · cases hl
      rw [List.length_drop]
      omega
    · cases hl
/-- Both readers go on; the other one is left as it was. -/
theorem RdAt.other {w v : World} {r g : Nat} {st : St} (h : RdAt w r st) (hg : w.grownBy v (some g)) (hne : r ≠ g) : RdAt v r st := h.same (hg.block r h.inside (by simpa using hne))
theorem RfAt.other {w v : World} {r g : Nat} {st : St} (h : RfAt w r st) (hg : w.grownBy v (some g)) (hne : r ≠ g) : RfAt v r st := h.same (hg.block r h.inside (by simpa using hne))
theorem cell_of_row1 {B : Nat} {W : World} {x : Option Addr} {n cap : Nat} {l : List Int} (h : RowB B W (.slice x n cap) 1 (l.map i8V)) {k : Nat} {s : Int} (hk : l[k]? = some s) :
    ∃ g o, x = some ⟨g, o, none⟩ ∧ g < B ∧ W.cell? ⟨g, o + k, none⟩ = some (.int .i8 s) := by
  obtain ⟨g, o, e, hg, hc⟩ := h.row (j := k) (r := i8V s) (by rw [List.getElem?_map, hk]; rfl)
  exact ⟨g, o, e, hg, by simpa using hc 0 _ rfl⟩

set_option maxRecDepth 100000 in
set_option maxHeartbeats 8000000 in
theorem reads_walk (s : Bs) (x : Option Addr) (N cap : Nat) (ps : List Int) (w : World) (hs : s.length ≤ 9223372036854775000) (hrow : RowB w.heap.size w (.slice x N cap) 1 (ps.map i8V)) (hps : ∀ y ∈ ps, -128 ≤ y ∧ y ≤ 127) :
    Calls Try.prog 4 #[.string (str s), .slice x N cap] w fun e w' => e = .returned (.bool true) ∧ Below w.heap.size w w' := by
  have hN : ps.length = N := by
    obtain ⟨x', cap', e, -⟩ := hrow
    cases e
    simp
  obtain ⟨n, hn⟩ : ∃ n, w.heap.size = n := ⟨_, rfl⟩
  have hwk := works_any w
  rw [hn] at hwk hrow ⊢
  go_enter Try.func4, Try.ntmps4
  go_wp2_with fail
  refine hwk.mono ?_
  clear hwk
  rintro e w1 ⟨rfl, hB1⟩
  have hz1 := hB1.size
  rw [hn] at hz1
  go_wp2_with fail
  refine (Read_any s _).mono ?_
  rintro e w2 ⟨rfl, hR2, hb2⟩
  have hB2 := hB1.trans (hb2.mono hz1)
  have hr2 := hR2.inside
  have hz2 := Nat.le_trans hz1 hb2.size
  obtain ⟨r, hr⟩ : ∃ r, w1.heap.size = r := ⟨_, rfl⟩
  rw [hr] at hR2 hr2 hz1 ⊢
  clear hb2 hB1 hr
  go_upto_region 5 with fail
  have hB3 := hB2.alloc hz2 (.cells #[.string (str s), .bool false] 37)
  have hR3 : RdAt (w2.alloc (.cells #[.string (str s), .bool false] 37)) r (some s) := At.alloc hR2 _
  have hF3 : RfAt (w2.alloc (.cells #[.string (str s), .bool false] 37)) w2.heap.size (some s) := ⟨s, false, rfl, hs, At.new _ _ _⟩
  generalize w2.alloc (.cells #[.string (str s), .bool false] 37) = w3 at hB3 hR3 hF3 ⊢
  generalize w2.heap.size = m at hr2 hz2 hF3 ⊢
  have hrm : r ≠ m := by omega
  have hst0 : StLe (some s) := fun l hl => by cases hl; exact hs
  replace hR3 := Lib.hid hR3
  replace hF3 := Lib.hid hF3
  replace hB3 := Lib.hid hB3
  replace hst0 := Lib.hid hst0
  replace hrow := Lib.hid hrow
  replace hN := Lib.hid hN
  replace hn := Lib.hid hn
  clear hB2 hR2 hr2
  go_wp2_with fail
  go_loopw [7] (fun c wr => ∃ (i : Nat) (st : St), c = .int .i64 (i : Int) ∧ i ≤ 30 ∧ i ≤ N ∧ Hid (RdAt wr r st) ∧ Hid (RfAt wr m st) ∧ Hid (StLe st) ∧ Hid (Below n w wr))
    (fun c _ => 30 - (intOf c).toNat)
  case atStart => exact ⟨0, some s, rfl, by omega, by omega, hR3, hF3, hst0, hB3⟩
  case round =>
    clear hR3 hF3 hst0 hB3
    obtain ⟨wi, hwi⟩ : ∃ wi, wi = wr := ⟨_, rfl⟩
    subst hwi
    obtain ⟨i, st, rfl, hi30, hiN, hR, hF, hst, hB⟩ := hrel
    have hzi : n ≤ wi.heap.size := by have := hB.out.size; have := hn.out; omega
    by_cases hlt : i < N
    case neg =>
      obtain rfl : i = N := by omega
      clear hlt
      go_wp2_with fail
      refine (Left_any _ _ _ hR.out).mono ?_
      rintro e w4 ⟨rfl, rfl⟩
      go_wp2_with fail
      refine (refLeft_any _ _ _ hF.out).mono ?_
      rintro e w5 ⟨rfl, rfl⟩
      go_wp2_with fail
      refine (End_any _ _ _ hR.out).mono ?_
      rintro e w6 ⟨rfl, rfl⟩
      go_wp2_with fail
      refine (refEnd_any _ _ _ hF.out).mono ?_
      rintro e w7 ⟨rfl, rfl⟩
      go_wp2
      go_ret
      exact ⟨rfl, hB.out⟩
    by_cases h30 : i < 30
    case neg =>
      obtain rfl : i = 30 := by omega
      have hlt' : (30 : Int) < (N : Int) := by omega
      simp only [show ((30 : Nat) : Int) = 30 from rfl]
      clear h30
      go_wp2_with fail
      refine (Left_any _ _ _ hR.out).mono ?_
      rintro e w4 ⟨rfl, rfl⟩
      go_wp2_with fail
      refine (refLeft_any _ _ _ hF.out).mono ?_
      rintro e w5 ⟨rfl, rfl⟩
      go_wp2_with fail
      refine (End_any _ _ _ hR.out).mono ?_
      rintro e w6 ⟨rfl, rfl⟩
      go_wp2_with fail
      refine (refEnd_any _ _ _ hF.out).mono ?_
      rintro e w7 ⟨rfl, rfl⟩
      go_wp2
      go_ret
      exact ⟨rfl, hB.out⟩
    have hlt' : (i : Int) < (N : Int) := by omega
    have h30' : (i : Int) < 30 := by omega
    obtain ⟨k, hk⟩ : ∃ k, ps[i]? = some k := ⟨_, List.getElem?_eq_getElem (by rw [hN.out]; exact hlt)⟩
    have hkb := hps k (List.mem_of_getElem? hk)
    obtain ⟨g, o, rfl, hg, hc⟩ := cell_of_row1 (hrow.out.keep hB.out (Nat.le_refl n)) hk
    obtain ⟨hk1, hk2⟩ := hkb
    clear hk
    by_cases h100 : k = 100
    · have hrt := Text_any r st wi hst.out hR.out
      subst h100
      go_wp2_with fail
      refine hrt.mono ?_
      clear hrt
      rintro e w4 ⟨rfl, hR4, hg4⟩
      have hF4 := hF.out.other hg4 hrm.symm
      have hB4 := below_rd hB.out hg4 hzi hz1
      have hz4 := Nat.le_trans hzi hg4.size
      clear hg4 hF hB hR
      go_wp2_with fail
      refine (refText_any m st w4 hF4).mono ?_
      rintro e w5 ⟨rfl, hF5, hg5⟩
      have hR5 := hR4.other hg5 hrm
      have hB5 := below_rd hB4 hg5 hz4 hz2
      clear hg5 hF4 hR4 hB4
      have hst5 := Lib.hid (hst.out.text)
      clear hst
      obtain ⟨T, hT⟩ : ∃ T, (textS st).1 = T := ⟨_, rfl⟩
      obtain ⟨S, hS⟩ : ∃ S, (textS st).2 = S := ⟨_, rfl⟩
      rw [hS] at hF5 hR5 hst5
      rw [hT]
      clear hT hS
      go_wp2_with fail
      refine (Left_any _ _ _ hR5).mono ?_
      rintro e w6 ⟨rfl, rfl⟩
      go_wp2_with fail
      refine (refLeft_any _ _ _ hF5).mono ?_
      rintro e w7 ⟨rfl, rfl⟩
      go_wp2_with fail
      refine (End_any _ _ _ hR5).mono ?_
      rintro e w8 ⟨rfl, rfl⟩
      go_wp2_with fail
      refine (refEnd_any _ _ _ hF5).mono ?_
      rintro e w9 ⟨rfl, rfl⟩
      replace hR5 := Lib.hid hR5
      replace hF5 := Lib.hid hF5
      replace hB5 := Lib.hid hB5
      go_wp2_with fail
      go_roundw
      case rel => exact ⟨i + 1, S, by go_num, by omega, by omega, hR5, hF5, hst5, hB5⟩
      case measure => simp [intOf]; omega
    · have hrt := Num_any k r st wi hst.out hR.out
      go_wp2_with fail
      refine hrt.mono ?_
      clear hrt
      rintro e w4 ⟨rfl, hR4, hg4⟩
      have hF4 := hF.out.other hg4 hrm.symm
      have hB4 := below_rd hB.out hg4 hzi hz1
      have hz4 := Nat.le_trans hzi hg4.size
      clear hg4 hF hB hR
      go_wp2_with fail
      refine (refNum_any k m st w4 hF4).mono ?_
      rintro e w5 ⟨rfl, hF5, hg5⟩
      have hR5 := hR4.other hg5 hrm
      have hB5 := below_rd hB4 hg5 hz4 hz2
      clear hg5 hF4 hR4 hB4
      have hst5 := Lib.hid (hst.out.num k)
      clear hst
      obtain ⟨T, hT⟩ : ∃ T, (numS st k).1 = T := ⟨_, rfl⟩
      obtain ⟨S, hS⟩ : ∃ S, (numS st k).2 = S := ⟨_, rfl⟩
      rw [hS] at hF5 hR5 hst5
      rw [hT]
      clear hT hS
      go_wp2_with fail
      refine (Left_any _ _ _ hR5).mono ?_
      rintro e w6 ⟨rfl, rfl⟩
      go_wp2_with fail
      refine (refLeft_any _ _ _ hF5).mono ?_
      rintro e w7 ⟨rfl, rfl⟩
      go_wp2_with fail
      refine (End_any _ _ _ hR5).mono ?_
      rintro e w8 ⟨rfl, rfl⟩
      go_wp2_with fail
      refine (refEnd_any _ _ _ hF5).mono ?_
      rintro e w9 ⟨rfl, rfl⟩
      replace hR5 := Lib.hid hR5
      replace hF5 := Lib.hid hF5
      replace hB5 := Lib.hid hB5
      go_wp2_with fail
      go_roundw
      case rel => exact ⟨i + 1, S, by go_num, by omega, by omega, hR5, hF5, hst5, hB5⟩
      case measure => simp [intOf]; omega

end Go.Proofs.Ytjjmhkafhbeabaa.Oct

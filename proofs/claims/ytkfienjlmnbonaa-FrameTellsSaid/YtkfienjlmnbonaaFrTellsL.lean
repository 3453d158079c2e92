/-
  FrameLays and FrameTells: the walks.
-/
import Derived.Test.YtkfienjlmnbonaaFrWorks
namespace Go.Proofs.Ytkfienjlmnbonaa.Fr
open Go.RowKit Go.Sort Go.Shelf Go.Proofs.Ytkfienjlmnbonaa.Mem Go.Proofs.Ytkfienjlmnbonaa.Route Go.Proofs.Ytkfienjlmnbonaa.Oct
set_option linter.unusedVariables false

set_option maxRecDepth 100000 in
set_option maxHeartbeats 4000000 in
theorem lays_walk (k : Int) (b : Bs) (hb : b.length ≤ 9223372036854775807) (w : World) : Calls Try.prog 3 #[.int .i64 k, .string (str b)] w fun e w' => e = .returned (.bool true) ∧ Below w.heap.size w w' := by
  have h1 := Lib.hid (fun W => Lay_any k b hb W)
  have h2 := Lib.hid (fun W => refLay_any k b hb W)
  generalize layB k b = B at h1 h2
  generalize layE k b.length = E at h1 h2
  obtain ⟨n, hn⟩ : ∃ n, w.heap.size = n := ⟨_, rfl⟩
  rw [hn]
  have hB0 : Below n w w := .refl _ _
  have hz0 : n ≤ w.heap.size := by omega
  replace hn := Lib.hid hn
  go_enter Try.func3, Try.ntmps3
  go_wp2_with fail
  refine (h1.out _).mono ?_
  rintro e w1 ⟨rfl, hb1⟩
  have hB1 := hB0.trans (hb1.mono hz0)
  have hz1 := Nat.le_trans hz0 hb1.size
  clear hb1 hB0 hz0
  go_wp2_with fail
  refine (h2.out _).mono ?_
  rintro e w2 ⟨rfl, hb2⟩
  have hB2 := hB1.trans (hb2.mono hz1)
  have hz2 := Nat.le_trans hz1 hb2.size
  clear hb2 hB1 hz1
  go_wp2_with fail
  refine (works_any _).mono ?_
  rintro e w3 ⟨rfl, hb3⟩
  have hB3 := hB2.trans (hb3.mono hz2)
  have hz3 := Nat.le_trans hz2 hb3.size
  clear hb3 hB2 hz2
  go_wp2
  go_ret
  exact ⟨rfl, hB3⟩

set_option maxRecDepth 100000 in
set_option maxHeartbeats 4000000 in
theorem tells_walk (s : Bs) (hs : s.length ≤ 9223372036854775807) (w : World) : Calls Try.prog 4 #[.string (str s)] w fun e w' => e = .returned (.bool true) ∧ Below w.heap.size w w' := by
  obtain ⟨l, r, hr⟩ := Run.some s
  have h1 := Lib.hid (fun W => Parse_any s hs W)
  have h2 := Lib.hid (fun W => refParse_any s hs W)
  have h3 := Lib.hid (fun W => Split_any s hs W)
  have h4 := Lib.hid (fun W => refSplit_any s hs W)
  have h5 := Lib.hid (fun W => Count_any s r l hr hs W)
  have h6 := Lib.hid (fun W => refCount_any s r l hr hs W)
  clear hr
  generalize paK s = a1 at h1 h2
  generalize paB s = a2 at h1 h2
  generalize paE s = a3 at h1 h2
  generalize spK s = b1 at h3 h4
  generalize spB s = b2 at h3 h4
  generalize spR s = b3 at h3 h4
  generalize spE s = b4 at h3 h4
  generalize cnN l r = c1 at h5 h6
  generalize cnE r = c2 at h5 h6
  obtain ⟨n, hn⟩ : ∃ n, w.heap.size = n := ⟨_, rfl⟩
  rw [hn]
  have hB0 : Below n w w := .refl _ _
  have hz0 : n ≤ w.heap.size := by omega
  replace hn := Lib.hid hn
  go_enter Try.func4, Try.ntmps4
  go_wp2_with fail
  refine (h1.out _).mono ?_
  rintro e w1 ⟨rfl, hb1⟩
  have hB1 := hB0.trans (hb1.mono hz0)
  have hz1 := Nat.le_trans hz0 hb1.size
  clear hb1 hB0 hz0
  go_wp2_with fail
  refine (h2.out _).mono ?_
  rintro e w2 ⟨rfl, hb2⟩
  have hB2 := hB1.trans (hb2.mono hz1)
  have hz2 := Nat.le_trans hz1 hb2.size
  clear hb2 hB1 hz1
  go_wp2_with fail
  refine (h3.out _).mono ?_
  rintro e w3 ⟨rfl, hb3⟩
  have hB3 := hB2.trans (hb3.mono hz2)
  have hz3 := Nat.le_trans hz2 hb3.size
  clear hb3 hB2 hz2
  go_wp2_with fail
  refine (h4.out _).mono ?_
  rintro e w4 ⟨rfl, hb4⟩
  have hB4 := hB3.trans (hb4.mono hz3)
  have hz4 := Nat.le_trans hz3 hb4.size
  clear hb4 hB3 hz3
  go_wp2_with fail
  refine (h5.out _).mono ?_
  rintro e w5 ⟨rfl, hb5⟩
  have hB5 := hB4.trans (hb5.mono hz4)
  have hz5 := Nat.le_trans hz4 hb5.size
  clear hb5 hB4 hz4
  go_wp2_with fail
  refine (h6.out _).mono ?_
  rintro e w6 ⟨rfl, hb6⟩
  have hB6 := hB5.trans (hb6.mono hz5)
  have hz6 := Nat.le_trans hz5 hb6.size
  clear hb6 hB5 hz5
  go_wp2_with fail
  refine (works_any _).mono ?_
  rintro e w7 ⟨rfl, hb7⟩
  have hB7 := hB6.trans (hb7.mono hz6)
  have hz7 := Nat.le_trans hz6 hb7.size
  clear hb7 hB6 hz6
  go_wp2
  go_ret
  exact ⟨rfl, hB7⟩

end Go.Proofs.Ytkfienjlmnbonaa.Fr

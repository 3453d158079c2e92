import Derived.Test.YteefkijmodcijaaDoorPkClose
import Derived.Test.YteefkijmodcijaaDoorPkFeasAgMath
import Derived.Test.YteefkijmodcijaaDoorPkFeasWorks2
import Derived.Test.YteefkijmodcijaaDoorPkFeasCheck
import Derived.Test.YteefkijmodcijaaDoorPkWhenTimes
import Derived.Test.YteefkijmodcijaaDoorPkLoadFits

/-
  FeasAgrees returns true, whatever the draft, the capacity and memory are. Its conditions: errors.errorType holds its handle, load.signs what is laid.
-/
namespace Go.Proofs.YteefkijmodcijaaDoor.feasAgrees
open Go.ChangeShapes Go.WideShapes Go.ChangeAt Go.RowKit Go.Sort Go.Proofs.YteefkijmodcijaaDoor.Mem Go.Proofs.YteefkijmodcijaaDoor.Route Go.Proofs.YteefkijmodcijaaDoor.When Go.Proofs.YteefkijmodcijaaDoor.Feas
set_option linter.unusedVariables false
open Go.Proofs.YteefkijmodcijaaDoor.Load (Sg Fits_any fitAt fitE)
theorem cap_ok {v : Vh} {l : List (Int × Int)} {t : List Rq} (h : Dr v l t) {C : Int} (hC : 1 ≤ C ∧ C ≤ 40) : Dr ⟨v.hx, v.hy, C, v.st, v.en⟩ l t := by
  refine ⟨?_, h.ht, h.hl, h.hn, h.hr⟩
  have hv := h.hv
  unfold Vh.chk at hv ⊢
  rw [Order.veh_iff] at hv ⊢
  obtain ⟨h1, h2, h3, h4⟩ := hv
  exact ⟨h1, ⟨hC.1, show C ≤ 100000 by omega⟩, h3, h4⟩

set_option maxRecDepth 100000 in
set_option maxHeartbeats 8000000 in
theorem walk (xb : Option Addr) (Nb cb : Nat) (bs : List Int) (a b c : Int) (hby : ∀ x ∈ bs, 0 ≤ x ∧ x < 256) (ha : 0 ≤ a ∧ a < 256) (hb : 0 ≤ b ∧ b < 256) (ca : Int) (hca : 0 ≤ ca ∧ ca < 256) (w : World) (hg : Hd w) (hsg : Sg w)
    (hD : RowB w.heap.size w (.slice xb Nb cb) 1 (bs.map byV)) :
    Calls Tryd.prog 6 #[.agg #[.slice xb Nb cb, .int .u8 a, .int .u8 b, .int .i64 c], .int .u8 ca] w fun e w' => e = .returned (.bool true) ∧ Below w.heap.size w w' := by
  obtain ⟨q, hq⟩ : ∃ q, w.heap.size = q := ⟨_, rfl⟩
  obtain ⟨w1, hw1⟩ : ∃ w1, w.alloc (.cells #[.slice xb Nb cb, .int .u8 a, .int .u8 b, .int .i64 c] 24) = w1 := ⟨_, rfl⟩
  have hX1 : At w1 q 24 #[.slice xb Nb cb, .int .u8 a, .int .u8 b, .int .i64 c] := by rw [← hw1]; exact At.new_ _ _ _ hq.symm
  have hb1 : Below w.heap.size w w1 := by rw [← hw1]; exact (Below.refl _ _).alloc (by omega) _
  have hg1 := hg.on hb1
  have hsg1 := Lib.hid (hsg.on hb1)
  have hD1 := Lib.hid (RowB.on hD hb1)
  have hby' := Lib.hid hby
  have hw1' := Lib.hid hw1
  have hq' := Lib.hid hq
  clear hD hby hw1 hg hq hsg
  go_enter Tryd.func6, Tryd.ntmps6
  go_upto_region 1 with fail
  first | rw [hw1'.out] | (simp only [hq'.out]; rw [hw1'.out])
  go_wp2_with fail
  refine (works_any _ hg1).mono ?_
  rintro e w2 ⟨rfl, hb2⟩
  have hg2 := hg1.on hb2
  have hsg2 := Lib.hid (hsg1.out.on hb2)
  have hX2 := hX1.keep hb2 hX1.inside
  have hbA := hb1.trans (hb2.mono hb1.size)
  have hp := parts_any xb Nb cb bs a b c _ (RowB.on hD1.out hb2) hby'.out ha hb
  have x0 := hX2.cell 0
  have x1 := hX2.cell 1
  have x2 := hX2.cell 2
  have x3 := hX2.cell 3
  simp at x0 x1 x2 x3
  try simp only [hq'.out]
  clear hX1 hb1 hb2 hD1 hby' ha hb hg1 hw1' hsg1
  go_wp2_with fail
  refine hp.mono ?_
  clear hp x0 x1 x2 x3 hX2
  rintro e w3 ⟨⟨v, uo, ur, l, t, rfl, hv, hro, hsm, hlo, hqr, hlr, hch⟩, hb3⟩
  have hDr : Hid (Dr v l t) := Lib.hid (Dr.of hv hsm hlo hch)
  have hnum : Hid (Nums l) := Lib.hid (Dr.nums (v := v) (t := t) hsm)
  have hl12 : Hid (l.length ≤ 12) := Lib.hid hlo
  obtain ⟨n, hn⟩ : ∃ n, w3.heap.size = n := ⟨_, rfl⟩
  obtain ⟨w4, hw4⟩ : ∃ w4, w3.alloc (.cells #[.int .i64 v.hx, .int .i64 v.hy, .int .i64 v.cp, .int .i64 v.st, .int .i64 v.en] 34) = w4 := ⟨_, rfl⟩
  have hb34 : Below w3.heap.size w3 w4 := by rw [← hw4]; exact (Below.refl _ _).alloc (Nat.le_refl _) _
  have hV4 : At w4 n 34 #[.int .i64 v.hx, .int .i64 v.hy, .int .i64 v.cp, .int .i64 v.st, .int .i64 v.en] := by rw [← hw4]; exact At.new_ _ _ _ hn.symm
  have hb24 := hb3.trans (hb34.mono hb3.size)
  have hbB := hbA.trans (hb24.mono hbA.size)
  have hg4 := Lib.hid (hg2.on hb24)
  have hsg4 := Lib.hid (hsg2.out.on hb24)
  have hro4 := Lib.hid (hro.on hb34)
  have hqr4 := Lib.hid (hqr.on hb34)
  have hnw : n < w4.heap.size := hV4.inside
  have hwn : w.heap.size ≤ n := by have := hbA.size; have := hb3.size; omega
  have hw3n := Lib.hid hb34
  have hw4' := Lib.hid hw4
  have hn' := Lib.hid hn
  have hro3 := Lib.hid hro
  have hqr3 := Lib.hid hqr
  have hg3 := Lib.hid (hg2.on hb3)
  have hsg3 := Lib.hid (hsg2.out.on hb3)
  clear hb3 hb34 hb24 hbA hg2 hro hqr hsm hlo hlr hch hv hw4 hn hsg2
  go_upto_region 4 with fail
  try simp only [hn'.out]
  rw [hw4'.out]
  have hm1 : 0 ≤ ca % 40 := Int.emod_nonneg _ (by omega)
  have hm2 : ca % 40 < 40 := Int.emod_lt_of_pos _ (by omega)
  obtain ⟨m, hm⟩ : ∃ m, ca % 40 = m := ⟨_, rfl⟩
  rw [hm] at hm1 hm2
  obtain ⟨hca1, hca2⟩ := hca
  have v1 := hV4.cell 2
  have vf := hV4.free 2
  simp at v1
  go_upto_region 5 with fail
  have hV5 : At (w4.setCell ⟨n, 2, none⟩ (.int .i64 (1 + m))) n 34 #[.int .i64 v.hx, .int .i64 v.hy, .int .i64 (1 + m), .int .i64 v.st, .int .i64 v.en] := by
    have := hV4.put 2 (.int .i64 (1 + m))
    simpa using this
  have hb5 : Below w3.heap.size w3 (w4.setCell ⟨n, 2, none⟩ (.int .i64 (1 + m))) := hw3n.out.setCell (by show w3.heap.size ≤ n; rw [hn'.out]; exact Nat.le_refl _) _
  have hB5 : Below w.heap.size w (w4.setCell ⟨n, 2, none⟩ (.int .i64 (1 + m))) := hbB.setCell (by exact hwn) _
  have hDv := Lib.hid (cap_ok hDr.out (C := 1 + m) (by omega))
  generalize w4.setCell ⟨n, 2, none⟩ (.int .i64 (1 + m)) = w5 at hV5 hb5 hB5 ⊢
  obtain ⟨C, hC⟩ : ∃ C, 1 + m = C := ⟨_, rfl⟩
  rw [hC] at hV5 hDv
  simp only [hC]
  have hro5 := Lib.hid (hro3.out.on hb5)
  have hqr5 := Lib.hid (hqr3.out.on hb5)
  have hg5 := Lib.hid (hg3.out.on hb5)
  have hsg5 := Lib.hid (hsg3.out.on hb5)
  have hB5' := Lib.hid hB5
  clear hb5 hB5 hbB hw3n hV4 hro3 hqr3 hg3 hsg3 hg4 hsg4 hro4 hqr4 hw4' v1 vf hC hm1 hm2 hm hca1 hca2 hDr hnw hwn
  have hag := Lib.hid hDv.out.agree
  obtain ⟨E, hE⟩ : ∃ E, errT (⟨v.hx, v.hy, C, v.st, v.en⟩ : Vh) l t = E := ⟨_, rfl⟩
  have hE2 : Hid (E = 0 ∨ E = 9) := Lib.hid (by rw [← hE, hDv.out.errT]; split <;> simp)
  obtain ⟨H, hH⟩ : ∃ H, homeT (⟨v.hx, v.hy, C, v.st, v.en⟩ : Vh) l t = H := ⟨_, rfl⟩
  obtain ⟨F, hF⟩ : ∃ F, fitE (⟨v.hx, v.hy, C, v.st, v.en⟩ : Vh) l t = F := ⟨_, rfl⟩
  obtain ⟨K, hK⟩ : ∃ K, fitAt (⟨v.hx, v.hy, C, v.st, v.en⟩ : Vh) l t = K := ⟨_, rfl⟩
  have hE' := Lib.hid hE
  have hF' := Lib.hid hF
  have hK' := Lib.hid hK
  have hcT := Times_all (⟨v.hx, v.hy, C, v.st, v.en⟩ : Vh) uo ur l t (by have := hl12.out; omega) hnum.out w5 hro5.out hqr5.out
  rw [hE, hH] at hcT
  have v0 := hV5.cell 0
  have v1 := hV5.cell 1
  have v2 := hV5.cell 2
  have v3 := hV5.cell 3
  have v4 := hV5.cell 4
  simp at v0 v1 v2 v3 v4
  clear hE hH hF hK
  go_wp2_with fail
  refine hcT.mono ?_
  clear hcT v0 v1 v2 v3 v4
  rintro e w6 ⟨⟨ua, rfl, -, -⟩, hb6⟩
  have hV6 := hV5.keep hb6 hV5.inside
  have hro6 := Lib.hid (hro5.out.on hb6)
  have hqr6 := Lib.hid (hqr5.out.on hb6)
  have hg6 := Lib.hid (hg5.out.on hb6)
  have hsg6 := Lib.hid (hsg5.out.on hb6)
  have hB6' := Lib.hid (hB5'.out.trans (hb6.mono hB5'.out.size))
  clear hb6 hV5 hro5 hqr5 hg5 hsg5 hB5'
  have hcF := Fits_any (⟨v.hx, v.hy, C, v.st, v.en⟩ : Vh) uo ur l t (by have := hl12.out; omega) hnum.out w6 hsg6.out hro6.out hqr6.out
  rw [hF'.out, hK'.out] at hcF
  have v0 := hV6.cell 0
  have v1 := hV6.cell 1
  have v2 := hV6.cell 2
  have v3 := hV6.cell 3
  have v4 := hV6.cell 4
  simp at v0 v1 v2 v3 v4
  go_wp2_with fail
  refine hcF.mono ?_
  clear hcF v0 v1 v2 v3 v4
  rintro e w7 ⟨rfl, hb7⟩
  have hV7 := hV6.keep hb7 hV6.inside
  have hro7 := Lib.hid (hro6.out.on hb7)
  have hqr7 := Lib.hid (hqr6.out.on hb7)
  have hg7 := Lib.hid (hg6.out.on hb7)
  have hsg7 := Lib.hid (hsg6.out.on hb7)
  have hB7' := Lib.hid (hB6'.out.trans (hb7.mono hB6'.out.size))
  clear hb7 hV6 hro6 hqr6 hg6 hsg6 hB6'
  have hcC := Check_any (⟨v.hx, v.hy, C, v.st, v.en⟩ : Vh) uo ur l t (by have := hl12.out; omega) hnum.out w7 hro7.out hqr7.out
  have v0 := hV7.cell 0
  have v1 := hV7.cell 1
  have v2 := hV7.cell 2
  have v3 := hV7.cell 3
  have v4 := hV7.cell 4
  simp at v0 v1 v2 v3 v4
  go_wp2_with fail
  refine hcC.mono ?_
  clear hcC v0 v1 v2 v3 v4 hV7
  rintro e w8 ⟨⟨u, rfl, hu⟩, hb8⟩
  have hg8 := Lib.hid (hg7.out.on hb8)
  have hB8 := Lib.hid (hB7'.out.trans (hb8.mono hB7'.out.size))
  clear hb8 hro7 hqr7 hsg7 hg7 hB7'
  rcases hag.out with ⟨c1, c2, c3⟩ | ⟨c1, c2, c3, c4⟩ | ⟨c1, c2, c3⟩
  · rw [hE'.out] at c2
    rw [hF'.out] at c3
    rcases hu with ⟨-, rfl⟩ | ⟨h1, -⟩
    case inr => exact absurd c1 h1
    subst c2 c3
    clear c1
    go_wp2
    go_ret
    exact ⟨rfl, hB8.out⟩
  · rw [hF'.out] at c2
    rw [hK'.out] at c4
    have hT := Told_any u _ w8 hg8.out hu fault_code
    rw [c1, c3, c4] at hT
    rcases hu with ⟨h1, -⟩ | ⟨-, q1, rfl, -⟩
    case inl => rw [c1] at h1; cases h1
    subst c2
    rcases hE2.out with rfl | rfl
    · go_wp2_with fail
      refine hT.mono ?_
      clear hT
      rintro e w9 ⟨rfl, hb9⟩
      have hB9 := Lib.hid (hB8.out.trans (hb9.mono hB8.out.size))
      have hsz := hB9.out.size
      clear hb9
      go_upto_region 13 with fail
      have hZ : At (w9.alloc (.cells #[.int .i64 10, .int .i64 2, .int .i64 K] 55)) w9.heap.size 55 #[.int .i64 10, .int .i64 2, .int .i64 K] := At.new _ _ _
      have hBz := Lib.hid (hB9.out.alloc hsz (.cells #[.int .i64 10, .int .i64 2, .int .i64 K] 55))
      generalize w9.alloc (.cells #[.int .i64 10, .int .i64 2, .int .i64 K] 55) = wz at hZ hBz ⊢
      have z0 := hZ.cell 0
      have z1 := hZ.cell 1
      have z2 := hZ.cell 2
      simp at z0 z1 z2
      clear hZ
      go_wp2
      go_ret
      exact ⟨rfl, hBz.out⟩
    · go_wp2_with fail
      refine hT.mono ?_
      clear hT
      rintro e w9 ⟨rfl, hb9⟩
      have hB9 := Lib.hid (hB8.out.trans (hb9.mono hB8.out.size))
      have hsz := hB9.out.size
      clear hb9
      go_upto_region 13 with fail
      have hZ : At (w9.alloc (.cells #[.int .i64 10, .int .i64 2, .int .i64 K] 55)) w9.heap.size 55 #[.int .i64 10, .int .i64 2, .int .i64 K] := At.new _ _ _
      have hBz := Lib.hid (hB9.out.alloc hsz (.cells #[.int .i64 10, .int .i64 2, .int .i64 K] 55))
      generalize w9.alloc (.cells #[.int .i64 10, .int .i64 2, .int .i64 K] 55) = wz at hZ hBz ⊢
      have z0 := hZ.cell 0
      have z1 := hZ.cell 1
      have z2 := hZ.cell 2
      simp at z0 z1 z2
      clear hZ
      go_wp2
      go_ret
      exact ⟨rfl, hBz.out⟩
  · rw [hE'.out] at c2
    rw [hF'.out, hK'.out] at c3
    have hT := Told_any u _ w8 hg8.out hu fault_code
    rw [c1] at hT
    rcases hu with ⟨h1, -⟩ | ⟨-, q1, rfl, -⟩
    case inl => rw [c1] at h1; cases h1
    subst c2
    rcases c3 with rfl | ⟨rfl, c4, c5⟩
    · generalize (faultV (⟨v.hx, v.hy, C, v.st, v.en⟩ : Vh) l t).2.1 = ph at hT
      generalize (faultV (⟨v.hx, v.hy, C, v.st, v.en⟩ : Vh) l t).2.2 = ix at hT
      go_wp2_with fail
      refine hT.mono ?_
      clear hT
      rintro e w9 ⟨rfl, hb9⟩
      have hB9 := Lib.hid (hB8.out.trans (hb9.mono hB8.out.size))
      have hsz := hB9.out.size
      clear hb9
      go_upto_region 13 with fail
      have hZ : At (w9.alloc (.cells #[.int .i64 9, .int .i64 ph, .int .i64 ix] 55)) w9.heap.size 55 #[.int .i64 9, .int .i64 ph, .int .i64 ix] := At.new _ _ _
      have hBz := Lib.hid (hB9.out.alloc hsz (.cells #[.int .i64 9, .int .i64 ph, .int .i64 ix] 55))
      generalize w9.alloc (.cells #[.int .i64 9, .int .i64 ph, .int .i64 ix] 55) = wz at hZ hBz ⊢
      have z0 := hZ.cell 0
      have z1 := hZ.cell 1
      have z2 := hZ.cell 2
      simp at z0 z1 z2
      clear hZ
      go_wp2
      go_ret
      exact ⟨rfl, hBz.out⟩
    · rw [c4] at hT
      obtain ⟨ix, hix⟩ : ∃ ix, (faultV (⟨v.hx, v.hy, C, v.st, v.en⟩ : Vh) l t).2.2 = ix := ⟨_, rfl⟩
      rw [hix] at hT c5
      have hlt : decide (ix < K) = true := decide_eq_true c5
      go_wp2_with fail
      refine hT.mono ?_
      clear hT
      rintro e w9 ⟨rfl, hb9⟩
      have hB9 := Lib.hid (hB8.out.trans (hb9.mono hB8.out.size))
      have hsz := hB9.out.size
      clear hb9
      go_upto_region 13 with fail
      have hZ : At (w9.alloc (.cells #[.int .i64 9, .int .i64 2, .int .i64 ix] 55)) w9.heap.size 55 #[.int .i64 9, .int .i64 2, .int .i64 ix] := At.new _ _ _
      have hBz := Lib.hid (hB9.out.alloc hsz (.cells #[.int .i64 9, .int .i64 2, .int .i64 ix] 55))
      generalize w9.alloc (.cells #[.int .i64 9, .int .i64 2, .int .i64 ix] 55) = wz at hZ hBz ⊢
      have z0 := hZ.cell 0
      have z1 := hZ.cell 1
      have z2 := hZ.cell 2
      simp at z0 z1 z2
      clear hZ
      go_wp2
      go_ret
      exact ⟨rfl, hBz.out⟩

end Go.Proofs.YteefkijmodcijaaDoor.feasAgrees

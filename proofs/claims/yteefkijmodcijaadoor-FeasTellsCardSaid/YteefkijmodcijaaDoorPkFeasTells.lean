import Derived.Test.YteefkijmodcijaaDoorPkFeasAlike
import Derived.Test.YteefkijmodcijaaDoorPkFeasRefR
import Derived.Test.YteefkijmodcijaaDoorPkFeasArgs
import Derived.Test.YteefkijmodcijaaDoorPkFeasWorks2
import Derived.Test.YteefkijmodcijaaDoorPkFeasRows

/-
  FeasTells returns true, whatever the draft, how long the vehicle loiters, the stops, requests, times and memory are. Its condition: errors.errorType holds its handle.
-/
namespace Go.Proofs.YteefkijmodcijaaDoor.feasTells
open Go.ChangeShapes Go.WideShapes Go.ChangeAt Go.RowKit Go.Sort Go.Proofs.YteefkijmodcijaaDoor.Mem Go.Proofs.YteefkijmodcijaaDoor.Route Go.Proofs.YteefkijmodcijaaDoor.When Go.Proofs.YteefkijmodcijaaDoor.Feas
set_option linter.unusedVariables false

theorem Nums.take {l : List (Int × Int)} (h : Nums l) (k : Nat) : Nums (l.take k) := fun s hs => h s (List.mem_of_mem_take hs)
theorem flatT_more (ts : List Tm) : flatT ts ++ [.int .i64 0, .int .i64 0, .int .i64 0] = flatT (ts ++ [⟨0, 0, 0⟩]) := by rw [flatT_snoc]

set_option maxRecDepth 100000 in
set_option maxHeartbeats 8000000 in
theorem walk (xb : Option Addr) (Nb cb : Nat) (bs : List Int) (a b c : Int) (hby : ∀ x ∈ bs, 0 ≤ x ∧ x < 256) (ha : 0 ≤ a ∧ a < 256) (hb : 0 ≤ b ∧ b < 256) (yb : Option Addr) (My cy : Nat) (ys : List Int) (A Wh M : Int) (hys : ∀ x ∈ ys, 0 ≤ x ∧ x < 256) (hA : 0 ≤ A ∧ A < 256) (hWh : 0 ≤ Wh ∧ Wh < 256) (hM : -128 ≤ M ∧ M < 128) (vl vt vs : Value) (ol : List (Int × Int)) (ot : List Rq) (os : List Tm) (hnum : Nums ol) (w : World) (hg : Hd w)
    (hD : RowB w.heap.size w (.slice xb Nb cb) 1 (bs.map byV)) (hP : RowB w.heap.size w (.slice yb My cy) 1 (ys.map byV)) (hL : Row w.heap.size w vl ol) (hT : Rqs w.heap.size w vt ot) (hS : Tms w.heap.size w vs os) :
    Calls Tryd.prog 3 #[.agg #[.slice xb Nb cb, .int .u8 a, .int .u8 b, .int .i64 c], .agg #[.slice yb My cy, .int .u8 A, .int .u8 Wh, .int .i8 M], vl, vt, vs] w fun e w' => e = .returned (.bool true) ∧ Below w.heap.size w w' := by
  obtain ⟨it, hit, ht0, ht1, ht2⟩ := info_parts info_time
  obtain ⟨xl, No, capl, rfl, hNo', h0', hlc1, hlc2⟩ := hL.opened
  obtain ⟨xt, Nt, capt, rfl, hNt, htc1, htc2, htz⟩ := hT.opened
  obtain ⟨xq, Nq, capq, rfl, hNq, hqc1, hqc2, hqz⟩ := hS.opened
  obtain ⟨q, hq⟩ : ∃ q, w.heap.size = q := ⟨_, rfl⟩
  obtain ⟨w1, hw1⟩ : ∃ w1, (w.alloc (.cells #[.slice xb Nb cb, .int .u8 a, .int .u8 b, .int .i64 c] 24)).alloc (.cells #[.slice yb My cy, .int .u8 A, .int .u8 Wh, .int .i8 M] 27) = w1 := ⟨_, rfl⟩
  have hX1 : At w1 q 24 #[.slice xb Nb cb, .int .u8 a, .int .u8 b, .int .i64 c] := by rw [← hw1]; exact (At.new_ _ _ _ hq.symm).alloc _
  have hY1 : At w1 (q + 1) 27 #[.slice yb My cy, .int .u8 A, .int .u8 Wh, .int .i8 M] := by rw [← hw1]; exact At.new_ _ _ _ (by simp [hq])
  have hb1 : Below w.heap.size w w1 := by rw [← hw1]; exact ((Below.refl _ _).alloc (by omega) _).alloc (by simp) _
  have hs1 : q + 1 < w1.heap.size := hY1.inside
  obtain ⟨K, hK1, hK2, hK3⟩ : ∃ K : Nat, min (No : Int) 30 = (K : Int) ∧ K ≤ No ∧ K ≤ 30 := ⟨min No 30, by omega, by omega, by omega⟩
  obtain ⟨Kt, hKt1, hKt2, hKt3⟩ : ∃ K : Nat, min (Nt : Int) 30 = (K : Int) ∧ K ≤ Nt ∧ K ≤ 30 := ⟨min Nt 30, by omega, by omega, by omega⟩
  obtain ⟨Kq, hKq1, hKq2, hKq3⟩ : ∃ K : Nat, min (Nq : Int) 30 = (K : Int) ∧ K ≤ Nq ∧ K ≤ 30 := ⟨min Nq 30, by omega, by omega, by omega⟩
  have hL1 := Lib.hid ((hL.cutTo hNo'.out hK2).on hb1)
  have hT1 := Lib.hid ((Feas.Rqs.cutTo hT hNt hKt2).on hb1)
  have hS1 := Lib.hid ((Feas.Tms.cutTo hS hNq hKq2).on hb1)
  have hnu : Hid (Nums (ol.take K)) := Lib.hid (Nums.take hnum K)
  have hlen : Hid ((ol.take K).length ≤ 100) := Lib.hid (by rw [List.length_take]; omega)
  have hKq : Hid ((os.take Kq).length = Kq) := Lib.hid (by rw [List.length_take]; omega)
  have hc1 : K ≤ capl := by omega
  have hc2 : Kt ≤ capt := by omega
  have hc3 : Kq ≤ capq := by omega
  unfold maxLen at hlc2 htc2 hqc2
  generalize hA : ol.take K = a' at hL1 hnu hlen
  generalize hC : ot.take Kt = c' at hT1
  generalize hE : os.take Kq = d' at hS1 hKq
  have hg1 := Lib.hid (hg.on hb1)
  have hD1 := Lib.hid (RowB.on hD hb1)
  have hP1 := Lib.hid (RowB.on hP hb1)
  have hby' := Lib.hid hby
  have hys' := Lib.hid hys
  have hw1' := Lib.hid hw1
  have hq' := Lib.hid hq
  clear hD hP hby hys hw1 hg hq hL hT hS hNo' hNt hNq h0' htz hqz hnum hA hC hE
  go_enter Tryd.func3, Tryd.ntmps3
  go_upto_region 1 with fail
  first | rw [hw1'.out] | (simp only [hq'.out]; rw [hw1'.out])
  have hp := parts_any xb Nb cb bs a b c _ hD1.out hby'.out ha hb
  have x0 := hX1.cell 0
  have x1 := hX1.cell 1
  have x2 := hX1.cell 2
  have x3 := hX1.cell 3
  simp at x0 x1 x2 x3
  try simp only [hq'.out]
  clear ha hb hw1'
  go_wp2_with fail
  refine hp.mono ?_
  clear hp x0 x1 x2 x3
  rintro e w3 ⟨⟨v, uo, ur, l, t, rfl, hv, hro, hsm, hlo, hqr, hlr, hch⟩, hb3⟩
  have hDr : Hid (Dr v l t) := Lib.hid (Dr.of hv hsm hlo hch)
  have hnuo : Hid (Nums l) := Lib.hid (Dr.nums (v := v) (t := t) hsm)
  have hl12 : Hid (l.length ≤ 12) := Lib.hid hlo
  obtain ⟨n, hn⟩ : ∃ n, w3.heap.size = n := ⟨_, rfl⟩
  obtain ⟨w4, hw4⟩ : ∃ w4, w3.alloc (.cells #[.int .i64 v.hx, .int .i64 v.hy, .int .i64 v.cp, .int .i64 v.st, .int .i64 v.en] 34) = w4 := ⟨_, rfl⟩
  have hb34 : Below w3.heap.size w3 w4 := by rw [← hw4]; exact (Below.refl _ _).alloc (Nat.le_refl _) _
  have hV4 : At w4 n 34 #[.int .i64 v.hx, .int .i64 v.hy, .int .i64 v.cp, .int .i64 v.st, .int .i64 v.en] := by rw [← hw4]; exact At.new_ _ _ _ hn.symm
  have hb14 := hb3.trans (hb34.mono hb3.size)
  have hB4 := Lib.hid (hb1.trans (hb14.mono hb1.size))
  have hY4 := hY1.keep hb14 hY1.inside
  have hg4 := Lib.hid (hg1.out.on hb14)
  have hro4 := Lib.hid (hro.on hb34)
  have hqr4 := Lib.hid (hqr.on hb34)
  have hL4 := Lib.hid (hL1.out.on hb14)
  have hT4 := Lib.hid (hT1.out.on hb14)
  have hS4 := Lib.hid (hS1.out.on hb14)
  have hP4 := Lib.hid (hP1.out.on hb14)
  have hqn : q + 1 < n := by have := hb3.size; omega
  have hw4' := Lib.hid hw4
  have hn' := Lib.hid hn
  clear hb3 hb34 hb14 hb1 hX1 hY1 hg1 hro hqr hL1 hT1 hS1 hP1 hD1 hby' hsm hlo hlr hch hv hw4 hn
  go_upto_region 2 with fail
  try simp only [hn'.out]
  rw [hw4'.out]
  go_quiet (fail)
  have hbn : Below w4.heap.size w4 (w4.drewN nq) := below_drewN (Below.refl _ _) nq
  have hP5 := Lib.hid (hP4.out.on hbn)
  have hV5 := hV4.keep hbn hV4.inside
  have hY5 := hY4.keep hbn hY4.inside
  have hg5 := Lib.hid (hg4.out.on hbn)
  have hro5 := Lib.hid (hro4.out.on hbn)
  have hqr5 := Lib.hid (hqr4.out.on hbn)
  have hL5 := Lib.hid (hL4.out.on hbn)
  have hT5 := Lib.hid (hT4.out.on hbn)
  have hS5 := Lib.hid (hS4.out.on hbn)
  have hB5 := Lib.hid (hB4.out.trans (hbn.mono hB4.out.size))
  clear hV4 hY4 hg4 hro4 hqr4 hL4 hT4 hS4 hB4
  clear hP4 hw4'
  go_upto_region 3 with fail
  clear hbn
  generalize w4.drewN nq = w5 at *
  clear hK1 hKt1 hKq1
  have hc := alike_any v _ _ l t (by have := hl12.out; omega) hnuo.out w5 hg5.out hro5.out hqr5.out
  have v0 := hV5.cell 0
  have v1 := hV5.cell 1
  have v2 := hV5.cell 2
  have v3 := hV5.cell 3
  have v4 := hV5.cell 4
  simp at v0 v1 v2 v3 v4
  go_wp2_with fail
  refine hc.mono ?_
  clear hc v0 v1 v2 v3 v4
  rintro e w6 ⟨rfl, hb6⟩
  have hP6 := Lib.hid (hP5.out.on hb6)
  have hV6 := hV5.keep hb6 hV5.inside
  have hY6 := hY5.keep hb6 hY5.inside
  have hg6 := Lib.hid (hg5.out.on hb6)
  have hro6 := Lib.hid (hro5.out.on hb6)
  have hqr6 := Lib.hid (hqr5.out.on hb6)
  have hL6 := Lib.hid (hL5.out.on hb6)
  have hT6 := Lib.hid (hT5.out.on hb6)
  have hS6 := Lib.hid (hS5.out.on hb6)
  have hB6 := Lib.hid (hB5.out.trans (hb6.mono hB5.out.size))
  clear hV5 hY5 hg5 hro5 hqr5 hL5 hT5 hS5 hB5
  clear hP5 hb6
  have hc := alike_any v _ _ a' t hlen.out hnu.out w6 hg6.out hL6.out hqr6.out
  have v0 := hV6.cell 0
  have v1 := hV6.cell 1
  have v2 := hV6.cell 2
  have v3 := hV6.cell 3
  have v4 := hV6.cell 4
  simp at v0 v1 v2 v3 v4
  go_wp2_with fail
  refine hc.mono ?_
  clear hc v0 v1 v2 v3 v4
  rintro e w7 ⟨rfl, hb7⟩
  have hP7 := Lib.hid (hP6.out.on hb7)
  have hV7 := hV6.keep hb7 hV6.inside
  have hY7 := hY6.keep hb7 hY6.inside
  have hg7 := Lib.hid (hg6.out.on hb7)
  have hro7 := Lib.hid (hro6.out.on hb7)
  have hqr7 := Lib.hid (hqr6.out.on hb7)
  have hL7 := Lib.hid (hL6.out.on hb7)
  have hT7 := Lib.hid (hT6.out.on hb7)
  have hS7 := Lib.hid (hS6.out.on hb7)
  have hB7 := Lib.hid (hB6.out.trans (hb7.mono hB6.out.size))
  clear hV6 hY6 hg6 hro6 hqr6 hL6 hT6 hS6 hB6
  clear hP6 hb7
  have hc := alike_any v _ _ l c' (by have := hl12.out; omega) hnuo.out w7 hg7.out hro7.out hT7.out
  have v0 := hV7.cell 0
  have v1 := hV7.cell 1
  have v2 := hV7.cell 2
  have v3 := hV7.cell 3
  have v4 := hV7.cell 4
  simp at v0 v1 v2 v3 v4
  go_wp2_with fail
  refine hc.mono ?_
  clear hc v0 v1 v2 v3 v4
  rintro e w8 ⟨rfl, hb8⟩
  have hP8 := Lib.hid (hP7.out.on hb8)
  have hV8 := hV7.keep hb8 hV7.inside
  have hY8 := hY7.keep hb8 hY7.inside
  have hg8 := Lib.hid (hg7.out.on hb8)
  have hro8 := Lib.hid (hro7.out.on hb8)
  have hqr8 := Lib.hid (hqr7.out.on hb8)
  have hL8 := Lib.hid (hL7.out.on hb8)
  have hT8 := Lib.hid (hT7.out.on hb8)
  have hS8 := Lib.hid (hS7.out.on hb8)
  have hB8 := Lib.hid (hB7.out.trans (hb8.mono hB7.out.size))
  clear hV7 hY7 hg7 hro7 hqr7 hL7 hT7 hS7 hB7
  clear hP7 hb8
  have hc := alike_any v _ _ a' c' hlen.out hnu.out w8 hg8.out hL8.out hT8.out
  have v0 := hV8.cell 0
  have v1 := hV8.cell 1
  have v2 := hV8.cell 2
  have v3 := hV8.cell 3
  have v4 := hV8.cell 4
  simp at v0 v1 v2 v3 v4
  go_wp2_with fail
  refine hc.mono ?_
  clear hc v0 v1 v2 v3 v4
  rintro e w9 ⟨rfl, hb9⟩
  have hP9 := Lib.hid (hP8.out.on hb9)
  have hV9 := hV8.keep hb9 hV8.inside
  have hY9 := hY8.keep hb9 hY8.inside
  have hg9 := Lib.hid (hg8.out.on hb9)
  have hro9 := Lib.hid (hro8.out.on hb9)
  have hqr9 := Lib.hid (hqr8.out.on hb9)
  have hL9 := Lib.hid (hL8.out.on hb9)
  have hT9 := Lib.hid (hT8.out.on hb9)
  have hS9 := Lib.hid (hS8.out.on hb9)
  have hB9 := Lib.hid (hB8.out.trans (hb9.mono hB8.out.size))
  clear hV8 hY8 hg8 hro8 hqr8 hL8 hT8 hS8 hB8
  clear hP8 hb9
  have v0 := hV9.cell 0
  have v1 := hV9.cell 1
  have v2 := hV9.cell 2
  have v3 := hV9.cell 3
  have v4 := hV9.cell 4
  simp at v0 v1 v2 v3 v4
  go_upto_region 6 with fail
  obtain ⟨n2, hn2⟩ : ∃ n2, w9.heap.size = n2 := ⟨_, rfl⟩
  obtain ⟨w10, hw10⟩ : ∃ w10, w9.alloc (.cells #[.int .i64 v.hx, .int .i64 v.hy, .int .i64 v.cp, .int .i64 v.st, .int .i64 v.en] 34) = w10 := ⟨_, rfl⟩
  have hb10 : Below w9.heap.size w9 w10 := by rw [← hw10]; exact (Below.refl _ _).alloc (Nat.le_refl _) _
  have hW10 : At w10 n2 34 #[.int .i64 v.hx, .int .i64 v.hy, .int .i64 v.cp, .int .i64 v.st, .int .i64 v.en] := by rw [← hw10]; exact At.new_ _ _ _ hn2.symm
  have hw10' := Lib.hid hw10
  have hn2' := Lib.hid hn2
  have hV10 := hV9.keep hb10 hV9.inside
  have hY10 := hY9.keep hb10 hY9.inside
  have hn2n : n < n2 := by have := hV9.inside; omega
  have hb10' := Lib.hid hb10
  clear v0 v1 v2 v3 v4 hw10 hn2 hb10
  try simp only [hn2'.out]
  rw [hw10'.out]
  have hm1 : 0 ≤ A % 24 := Int.emod_nonneg _ (by omega)
  have hm2 : A % 24 < 24 := Int.emod_lt_of_pos _ (by omega)
  obtain ⟨m, hm⟩ : ∃ m, A % 24 = m := ⟨_, rfl⟩
  rw [hm] at hm1 hm2
  have hAA := Lib.hid hA
  obtain ⟨hA1, hA2⟩ := hA
  have y1 := hY10.cell 1
  simp at y1
  have z2 := hW10.cell 2
  have zf := hW10.free 2
  simp at z2
  go_upto_region 7 with fail
  have hW11 : At (w10.setCell ⟨n2, 2, none⟩ (.int .i64 (1 + m))) n2 34 #[.int .i64 v.hx, .int .i64 v.hy, .int .i64 (1 + m), .int .i64 v.st, .int .i64 v.en] := by
    have := hW10.put 2 (.int .i64 (1 + m))
    simpa using this
  have hV11 := hV10.far (b := n2) (by omega) 2 (.int .i64 (1 + m))
  have hY11 := hY10.far (b := n2) (by omega) 2 (.int .i64 (1 + m))
  have hb11 : Below w9.heap.size w9 (w10.setCell ⟨n2, 2, none⟩ (.int .i64 (1 + m))) := hb10'.out.setCell (by show w9.heap.size ≤ n2; rw [hn2'.out]; exact Nat.le_refl _) _
  generalize w10.setCell ⟨n2, 2, none⟩ (.int .i64 (1 + m)) = w11 at *
  obtain ⟨C, hC⟩ : ∃ C, 1 + m = C := ⟨_, rfl⟩
  rw [hC] at hW11
  clear hC hm1 hm2 hm hA1 hA2 y1 z2 zf hW10 hV10 hY10 hw10' hb10'
  have hP11 := Lib.hid (hP9.out.on hb11)
  have hg11 := Lib.hid (hg9.out.on hb11)
  have hro11 := Lib.hid (hro9.out.on hb11)
  have hqr11 := Lib.hid (hqr9.out.on hb11)
  have hL11 := Lib.hid (hL9.out.on hb11)
  have hT11 := Lib.hid (hT9.out.on hb11)
  have hS11 := Lib.hid (hS9.out.on hb11)
  have hB11 := Lib.hid (hB9.out.trans (hb11.mono hB9.out.size))
  clear  hg9 hro9 hqr9 hL9 hT9 hS9 hB9
  clear hP9 hb11 hV9 hY9
  have hpu := pushed_any hDr.out hl12.out yb My cy ys A Wh M uo ur w11 hP11.out hys'.out hAA.out hWh hM hro11.out hqr11.out
  have v0 := hV11.cell 0
  have v1 := hV11.cell 1
  have v2 := hV11.cell 2
  have v3 := hV11.cell 3
  have v4 := hV11.cell 4
  simp at v0 v1 v2 v3 v4
  have y0 := hY11.cell 0
  have y1 := hY11.cell 1
  have y2 := hY11.cell 2
  have y3 := hY11.cell 3
  simp at y0 y1 y2 y3
  go_wp2_with fail
  refine hpu.mono ?_
  clear hpu v0 v1 v2 v3 v4 y0 y1 y2 y3 hWh hM hY11 hP11 hys'
  rintro e w12 ⟨⟨us, ts, rfl, hts, -, htl, -⟩, hb12⟩
  obtain ⟨xs, Ns, cs, rfl, hNs0, hcs1, hcs2, -⟩ := hts.opened
  have hNs := Lib.hid hNs0
  have hNs12 : Ns ≤ 12 := by rw [← hNs0, htl]; exact hl12.out
  have hts12 := Lib.hid hts
  have hplt := Lib.hid (tms_plain hts)
  unfold maxLen at hcs2
  have hV12 := hV11.keep hb12 hV11.inside
  have hW12 := hW11.keep hb12 hW11.inside
  have hg12 := Lib.hid (hg11.out.on hb12)
  have hro12 := Lib.hid (hro11.out.on hb12)
  have hqr12 := Lib.hid (hqr11.out.on hb12)
  have hL12 := Lib.hid (hL11.out.on hb12)
  have hT12 := Lib.hid (hT11.out.on hb12)
  have hS12 := Lib.hid (hS11.out.on hb12)
  have hB12 := Lib.hid (hB11.out.trans (hb12.mono hB11.out.size))
  clear hV11 hW11 hg11 hro11 hqr11 hL11 hT11 hS11 hB11
  clear hts hNs0 htl hb12
  have hH1 : 0 ≤ (Ns : Int) / 2 := by omega
  obtain ⟨H, hH2, hH3⟩ : ∃ H : Nat, (Ns : Int) / 2 = H ∧ H ≤ Ns := ⟨Ns / 2, by omega, by omega⟩
  have hH4 : (Ns : Int).tdiv 2 = H := by rw [Int.tdiv_eq_ediv_of_nonneg (by omega), hH2]
  have hHc : H ≤ cs := by omega
  clear hH1
  go_upto_region 8 with fail
  refine Sched.wp_region_sched 15 (Kp w12.heap.size 40) (VT (B := w12.heap.size) (T := 40) [.val (.slice xs Ns cs), .val (.slice xq Kq capq), .any, .val (.slice xs Ns cs), .any, .val (.agg #[.int .i64 0, .int .i64 0, .int .i64 0]), .any, .any, .val (.slice xs Ns cs), .val (.slice xs Ns cs), .val (.int .i64 Ns), .val (.int .i64 H), .val (.slice xs H cs), .any, .of (fun v w => ∃ g : Nat, v = .pointer (some ⟨g, 0, none⟩) ∧ w12.heap.size ≤ g ∧ At w g 41 #[.slice none 0 0, .slice none 0 0, .slice none 0 0, .slice none 0 0]) (fun ⟨g, e, hg, h⟩ hb => ⟨g, e, hg, hb.at_ h (by decide)⟩)]) (ZT w12.heap.size Ns (flatT ts) (flatT (ts ++ [⟨0, 0, 0⟩])) (.slice xs Ns cs) (.slice xq Kq capq) (.slice xs H cs)) (by kernel_rfl) (by kernel_rfl) (by kernel_rfl) (fun h1 h2 => h1.trans h2) (fun h1 h2 => VT.keep h1 h2) (Kp.new (Below.refl _ _).drew (Nat.le_refl _)) (fun ys => ZT.start) (Sched.StepsA.steps (by kernel_rfl) ?hS8) ?hQ8
  case hS8 =>
   simp only [List.take_succ_cons, List.take_zero]
   refine ⟨?_, ?_, ?_, ?_, ?_, ?_, ?_, ?_, ?_, ?_, ?_, ?_, ?_, ?_, ?_, trivial⟩
   · intro ys done W aa hE hn hF hD hZ hG hO
     replace hE : Kp w12.heap.size 40 w12 W := hE
     have hsz := hE.size
     have o15 := hO 15 (by kernel_rfl)
     replace o15 : aa.tmps[15]? = some (.slice xs Ns cs) := o15
     go_wp2_with fail
     exact ⟨_, rfl, Kp.new (Below.refl _ _) hsz, VT.val rfl rfl, hZ.light (by decide) (Below.refl _ _)⟩
   · intro ys done W aa hE hn hF hD hZ hG hO
     replace hE : Kp w12.heap.size 40 w12 W := hE
     have hsz := hE.size
     have o4 := hO 4 (by kernel_rfl)
     replace o4 : aa.tmps[4]? = some (.slice xq Kq capq) := o4
     go_wp2_with fail
     exact ⟨_, rfl, Kp.new (Below.refl _ _) hsz, VT.val rfl rfl, hZ.light (by decide) (Below.refl _ _)⟩
   · intro ys done W aa hE hn hF hD hZ hG hO
     replace hE : Kp w12.heap.size 40 w12 W := hE
     have hsz := hE.size
     go_wp2_with fail
     exact ⟨_, rfl, Kp.new ((Below.refl _ _).alloc (Nat.le_refl _) _) hsz, VT.any rfl, hZ.put2 ((Below.refl _ _).alloc (Nat.le_refl _) _) ⟨_, rfl, ownsEmptyQ rfl hsz⟩⟩
   · intro ys done W aa hE hn hF hD hZ hG hO
     replace hE : Kp w12.heap.size 40 w12 W := hE
     have hsz := hE.size
     have o15 := hO 15 (by kernel_rfl)
     replace o15 : aa.tmps[15]? = some (.slice xs Ns cs) := o15
     go_wp2_with fail
     exact ⟨_, rfl, Kp.new (Below.refl _ _) hsz, VT.val rfl rfl, hZ.light (by decide) (Below.refl _ _)⟩
   · intro ys done W aa hE hn hF hD hZ hG hO
     replace hE : Kp w12.heap.size 40 w12 W := hE
     have hsz := hE.size
     have v3 := (hF 3 (by decide) (hD 3 (by kernel_rfl))).eq rfl
     have g3 := hG 3 80 rfl (Nat.le_of_ble_eq_true rfl)
     rw [v3] at g3
     have h4 : done 4 = false := hn
     have v2 := hZ.e (hD 2 (by kernel_rfl)) h4
     have g2 := hG 2 79 rfl (Nat.le_of_ble_eq_true rfl)
     obtain ⟨ge, hge, hoe⟩ := v2
     rw [hge] at g2 hoe
     have hqW := hts12.out.keep hE.1 (Nat.le_refl _)
     refine wpList_append_fresh rfl (.tmp 79) (.tmp 80) 30 rfl w12.heap.size 40 it (.agg #[.int .i64 0, .int .i64 0, .int .i64 0]) 3 24 Tryd.underlying30 hit ht0 ht1 ht2 rfl (by decide) ge (show aa.tmps.getD 79 undef = _ by simp [g2]) hoe _ Ns ⟨_, _, rfl⟩ hplt.out (flatT ts) (show aa.tmps.getD 80 undef = _ by simp [g3]) (by rw [flatT_length, hNs.out]) (fun ad c e => by simp only [Value.slice.injEq] at e; obtain ⟨rfl, -, rfl⟩ := e; exact tms_flat hqW) flatT_one (by unfold maxLen; omega) (by omega) hsz ?_
     intro v' W' hv' hb'
     replace hb' := Lib.hid hb'
     have hv2 : RowAt w12.heap.size 40 3 Ns (flatT ts) v' W' := hv'
     go_wp2_with fail
     exact ⟨_, rfl, Kp.new hb'.out hsz, VT.any rfl, hZ.put4 hb'.out hv2⟩
   · intro ys done W aa hE hn hF hD hZ hG hO
     replace hE : Kp w12.heap.size 40 w12 W := hE
     have hsz := hE.size
     go_wp2_with fail
     exact ⟨_, rfl, Kp.new (Below.refl _ _) hsz, VT.val rfl rfl, hZ.light (by decide) (Below.refl _ _)⟩
   · intro ys done W aa hE hn hF hD hZ hG hO
     replace hE : Kp w12.heap.size 40 w12 W := hE
     have hsz := hE.size
     have v5 := (hF 5 (by decide) (hD 5 (by kernel_rfl))).eq rfl
     have g5 := hG 5 82 rfl (Nat.le_of_ble_eq_true rfl)
     rw [v5] at g5
     go_wp2_with fail
     exact ⟨_, rfl, Kp.new ((Below.refl _ _).alloc (Nat.le_refl _) _) hsz, VT.any rfl, hZ.put6 ((Below.refl _ _).alloc (Nat.le_refl _) _) hsz (At.new _ _ _)⟩
   · intro ys done W aa hE hn hF hD hZ hG hO
     replace hE : Kp w12.heap.size 40 w12 W := hE
     have hsz := hE.size
     have h7 : done 7 = false := hn
     have d4 := hD 4 (by kernel_rfl)
     have v4 := hZ.r d4 h7
     have g4 := hG 4 81 rfl (Nat.le_of_ble_eq_true rfl)
     obtain ⟨gn, hgn, hgM, hAn⟩ := hZ.n (hD 6 (by kernel_rfl)) h7
     have g6 := hG 6 83 rfl (Nat.le_of_ble_eq_true rfl)
     rw [hgn] at g6
     obtain ⟨x4, c4, e4, _, _⟩ := owns_slice v4
     rw [e4] at g4 v4
     have hd4 := Lib.hid d4
     have hd7 := Lib.hid h7
     have hZ' := Lib.hid hZ
     clear hZ
     refine wpList_append_own _ rfl (.tmp 81) (.tmp 83) 30 rfl w12.heap.size 40 it (.agg #[.int .i64 0, .int .i64 0, .int .i64 0]) 3 24 Tryd.underlying30 hit ht0 ht1 ht2 rfl (by decide) (.slice x4 Ns c4) Ns (flatT ts) (show aa.tmps.getD 81 undef = _ by simp [g4]) v4 ⟨gn, 0, none⟩ 1 1 [.int .i64 0, .int .i64 0, .int .i64 0] (show aa.tmps.getD 83 undef = _ by simp [g6]) rfl (World.news_of_block (cs := #[.int .i64 0, .int .i64 0, .int .i64 0]) (t := 40) (fr := (0, 0)) hAn) (by simp [Value.oneCell']) (by unfold maxLen; omega) (by omega) hsz ?_
     intro v7 w7 hown7 hgrow7 hnil7
     have hkp := Lib.hid (Kp.grown v4 (Nat.le_refl _) hgrow7 hsz)
     rw [flatT_more] at hown7
     have hrow7 : Hid (RowAt w12.heap.size 40 3 (Ns + 1) (flatT (ts ++ [⟨0, 0, 0⟩])) v7 w7) := Lib.hid hown7
     clear hown7 hgrow7 hnil7
     go_wp2_with fail
     exact ⟨_, rfl, hkp.out, VT.any rfl, hZ'.out.put7 hd4.out hd7.out hrow7.out⟩
   · intro ys done W aa hE hn hF hD hZ hG hO
     replace hE : Kp w12.heap.size 40 w12 W := hE
     have hsz := hE.size
     have o15 := hO 15 (by kernel_rfl)
     replace o15 : aa.tmps[15]? = some (.slice xs Ns cs) := o15
     go_wp2_with fail
     exact ⟨_, rfl, Kp.new (Below.refl _ _) hsz, VT.val rfl rfl, hZ.light (by decide) (Below.refl _ _)⟩
   · intro ys done W aa hE hn hF hD hZ hG hO
     replace hE : Kp w12.heap.size 40 w12 W := hE
     have hsz := hE.size
     have o15 := hO 15 (by kernel_rfl)
     replace o15 : aa.tmps[15]? = some (.slice xs Ns cs) := o15
     go_wp2_with fail
     exact ⟨_, rfl, Kp.new (Below.refl _ _) hsz, VT.val rfl rfl, hZ.light (by decide) (Below.refl _ _)⟩
   · intro ys done W aa hE hn hF hD hZ hG hO
     replace hE : Kp w12.heap.size 40 w12 W := hE
     have hsz := hE.size
     have v9 := (hF 9 (by decide) (hD 9 (by kernel_rfl))).eq rfl
     have g9 := hG 9 86 rfl (Nat.le_of_ble_eq_true rfl)
     rw [v9] at g9
     go_wp2_with fail
     exact ⟨_, rfl, Kp.new (Below.refl _ _) hsz, VT.val rfl rfl, hZ.light (by decide) (Below.refl _ _)⟩
   · intro ys done W aa hE hn hF hD hZ hG hO
     replace hE : Kp w12.heap.size 40 w12 W := hE
     have hsz := hE.size
     have v10 := (hF 10 (by decide) (hD 10 (by kernel_rfl))).eq rfl
     have g10 := hG 10 87 rfl (Nat.le_of_ble_eq_true rfl)
     rw [v10] at g10
     go_wp2_with fail
     exact ⟨_, rfl, Kp.new (Below.refl _ _) hsz, VT.val rfl rfl, hZ.light (by decide) (Below.refl _ _)⟩
   · intro ys done W aa hE hn hF hD hZ hG hO
     replace hE : Kp w12.heap.size 40 w12 W := hE
     have hsz := hE.size
     have v8 := (hF 8 (by decide) (hD 8 (by kernel_rfl))).eq rfl
     have g8 := hG 8 85 rfl (Nat.le_of_ble_eq_true rfl)
     rw [v8] at g8
     have v11 := (hF 11 (by decide) (hD 11 (by kernel_rfl))).eq rfl
     have g11 := hG 11 88 rfl (Nat.le_of_ble_eq_true rfl)
     rw [v11] at g11
     go_wp2_with fail
     exact ⟨_, rfl, Kp.new (Below.refl _ _) hsz, VT.val rfl rfl, hZ.light (by decide) (Below.refl _ _)⟩
   · intro ys done W aa hE hn hF hD hZ hG hO
     replace hE : Kp w12.heap.size 40 w12 W := hE
     have hsz := hE.size
     have v0 := (hF 0 (by decide) (hD 0 (by kernel_rfl))).eq rfl
     have g0 := hG 0 77 rfl (Nat.le_of_ble_eq_true rfl)
     rw [v0] at g0
     have v1 := (hF 1 (by decide) (hD 1 (by kernel_rfl))).eq rfl
     have g1 := hG 1 78 rfl (Nat.le_of_ble_eq_true rfl)
     rw [v1] at g1
     have v12 := (hF 12 (by decide) (hD 12 (by kernel_rfl))).eq rfl
     have g12 := hG 12 89 rfl (Nat.le_of_ble_eq_true rfl)
     rw [v12] at g12
     have d7 := hD 7 (by kernel_rfl)
     have v7 := hZ.s d7
     have g7 := hG 7 84 rfl (Nat.le_of_ble_eq_true rfl)
     obtain ⟨x7, c7, e7, _, _⟩ := owns_slice v7
     rw [e7] at g7
     have hZ' := Lib.hid hZ
     have hd7 := Lib.hid d7
     have he7 := Lib.hid e7
     clear hZ v7 e7
     go_wp2_with fail
     exact ⟨_, rfl, Kp.new (Below.refl _ _) hsz, VT.any rfl, hZ'.out.put13 hd7.out (by rw [he7.out])⟩
   · intro ys done W aa hE hn hF hD hZ hG hO
     replace hE : Kp w12.heap.size 40 w12 W := hE
     have hsz := hE.size
     go_wp2_with fail
     exact ⟨_, rfl, Kp.new ((Below.refl _ _).alloc (Nat.le_refl _) _) hsz, VT.of rfl ⟨_, rfl, hsz, At.new _ _ _⟩, hZ.light (by decide) ((Below.refl _ _).alloc (Nat.le_refl _) _)⟩
  case hQ8 =>
   intro ys w13 hE hF hZ
   obtain ⟨done, hd, hZ⟩ := hZ
   replace hE : Kp w12.heap.size 40 w12 w13 := hE
   have v14 := (hF 14 (by decide)).get rfl
   obtain ⟨g14, e14, hg14, hA14⟩ := v14
   obtain ⟨d7, e13⟩ := hZ.b (hd 13 (by decide))
   have v7 := hZ.s d7
   obtain ⟨x7, c7, e7, h71, h72⟩ := owns_slice v7
   unfold maxLen at h71
   rw [e7] at e13
   replace v7 : w13.ownsRow w12.heap.size 40 3 (ys 7) (Ns + 1) (flatT (ts ++ [⟨0, 0, 0⟩])) := v7
   rw [e7] at v7
   have hb13 : Below w12.heap.size w12 w13 := hE.1
   simp only [List.take_succ_cons, List.take_zero, List.drop_succ_cons, List.drop_zero, Sched.fill, e13, e14]
   have z0 := hA14.cell 0
   have z1 := hA14.cell 1
   have z2 := hA14.cell 2
   have z3 := hA14.cell 3
   have zf := hA14.free
   simp at z0 z1 z2 z3
   have hgi := hA14.inside
   have hap := rowApartAt v7 hA14 (by decide)
   have hO14 := ownsFar (ownsFar (ownsFar (ownsFar v7 hap 0 (.slice xs Ns cs)) hap 1 (.slice xq Kq capq)) hap 2 (.slice x7 (Ns + 1) c7)) hap 3 (.slice xs H cs)
   have hA15 := (((hA14.put 0 (.slice xs Ns cs)).put 1 (.slice xq Kq capq)).put 2 (.slice x7 (Ns + 1) c7)).put 3 (.slice xs H cs)
   have hb14 : Below w12.heap.size w12 ((((w13.setCell ⟨g14, 0, none⟩ (.slice xs Ns cs)).setCell ⟨g14, 1, none⟩ (.slice xq Kq capq)).setCell ⟨g14, 2, none⟩ (.slice x7 (Ns + 1) c7)).setCell ⟨g14, 3, none⟩ (.slice xs H cs)) := (((hb13.setCell (by exact hg14) _).setCell (by exact hg14) _).setCell (by exact hg14) _).setCell (by exact hg14) _
   simp at hA15
   have hlap : Hid ((ts ++ [(⟨0, 0, 0⟩ : Tm)]).length = Ns + 1) := Lib.hid (by rw [List.length_append, hNs.out]; rfl)
   clear hF hZ hd e13 e14 e7 d7 v7 hA14 hE hap hb13
   go_simp
   go_upto_region 9 with fail
   generalize ((((w13.setCell ⟨g14, 0, none⟩ (.slice xs Ns cs)).setCell ⟨g14, 1, none⟩ (.slice xq Kq capq)).setCell ⟨g14, 2, none⟩ (.slice x7 (Ns + 1) c7)).setCell ⟨g14, 3, none⟩ (.slice xs H cs)) = w14 at *
   clear z0 z1 z2 z3 zf
   have hts14 := Lib.hid (hts12.out.on hb14)
   have hap14 : Hid (Tms w14.heap.size w14 (.slice x7 (Ns + 1) c7) (ts ++ [⟨0, 0, 0⟩])) := Lib.hid (Tms.of_owns hO14 hlap.out.symm (Nat.le_refl _))
   have hhf : Hid (Tms w14.heap.size w14 (.slice xs H cs) (ts.take H)) := Lib.hid (Feas.Tms.cutTo hts14.out hNs.out hH3)
   clear hO14 hts12 hplt hH2 hH4
   have hV14 := hV12.keep hb14 hV12.inside
   have hW14 := hW12.keep hb14 hW12.inside
   have hg14 := Lib.hid (hg12.out.on hb14)
   have hro14 := Lib.hid (hro12.out.on hb14)
   have hqr14 := Lib.hid (hqr12.out.on hb14)
   have hL14 := Lib.hid (hL12.out.on hb14)
   have hT14 := Lib.hid (hT12.out.on hb14)
   have hS14 := Lib.hid (hS12.out.on hb14)
   have hB14 := Lib.hid (hB12.out.trans (hb14.mono hB12.out.size))
   clear hV12 hW12 hg12 hro12 hqr12 hL12 hT12 hS12 hB12
   clear hb14
   have hrows : Hid (∀ W, Below w14.heap.size w14 W → ∀ k : Nat, k < 4 → ∃ (x : Option Addr) (n c : Nat) (d : List Tm), W.cell? ⟨g14, k, none⟩ = some (.slice x n c) ∧ Tms W.heap.size W (.slice x n c) d) := Lib.hid fun W hW k hk => by
     have hAW := hA15.keep hW hA15.inside
     match k, hk with
     | 0, _ => exact ⟨_, _, _, _, hAW.cell 0, hts14.out.on hW⟩
     | 1, _ => exact ⟨_, _, _, _, hAW.cell 1, hS14.out.on hW⟩
     | 2, _ => exact ⟨_, _, _, _, hAW.cell 2, hap14.out.on hW⟩
     | 3, _ => exact ⟨_, _, _, _, hAW.cell 3, hhf.out.on hW⟩
   have hVi := hV14.inside
   have hWi := hW14.inside
   have hgi' := hA15.inside
   have hV14' := Lib.hid hV14
   have hW14' := Lib.hid hW14
   clear hV14 hW14 hgi
   go_wp2
   go_loopw [17] (fun i wr => ∃ k : Nat, i = .int .i64 k ∧ k ≤ 4 ∧ Below w14.heap.size w14 wr) (fun i _ => 4 - (intOf i).toNat)
   case atStart => exact ⟨0, rfl, Nat.zero_le _, Below.refl _ _⟩
   case round =>
    obtain ⟨k, rfl, hk, hbw⟩ := hrel
    have hV := hV14'.out.keep hbw hVi
    have hW := hW14'.out.keep hbw hWi
    by_cases hlt : k < 4
    · have hlti : (k : Int) < 4 := by omega
      obtain ⟨xr, nr, cr, d, hcl, hrw⟩ := hrows.out wr hbw k hlt
      have hrw' := Lib.hid hrw
      have hgw := Lib.hid (hg14.out.on hbw)
      have how := Lib.hid (hro14.out.on hbw)
      have hqw := Lib.hid (hqr14.out.on hbw)
      have hlw := Lib.hid (hL14.out.on hbw)
      have htw := Lib.hid (hT14.out.on hbw)
      have hgk : g14 < wr.heap.size := by have := hbw.size; omega
      have hbw' := Lib.hid hbw
      clear hrw hbw
      obtain ⟨R1, hR1⟩ : ∃ R, rightB v l t d = R := ⟨_, rfl⟩
      obtain ⟨R2, hR2⟩ : ∃ R, rightB v a' c' d = R := ⟨_, rfl⟩
      obtain ⟨R3, hR3⟩ : ∃ R, rightB (⟨v.hx, v.hy, C, v.st, v.en⟩ : Vh) l t d = R := ⟨_, rfl⟩
      have cP1 := fun e os => Calls.regrown_of (Right_any v _ _ _ l t d (by have := hl12.out; omega) hnuo.out (grow (redrawn wr e) os) (how.out.on (below_regrown wr e os)) (hqw.out.on (below_regrown wr e os)) (hrw'.out.on (below_regrown wr e os)))
      have cQ1 := fun e os => Calls.regrown_of (rRight_any v _ _ _ l t d (by have := hl12.out; omega) (grow (redrawn wr e) os) (how.out.on (below_regrown wr e os)) (hqw.out.on (below_regrown wr e os)) (hrw'.out.on (below_regrown wr e os)))
      have cP2 := fun e os => Calls.regrown_of (Right_any v _ _ _ a' c' d (by have := hlen.out; omega) hnu.out (grow (redrawn wr e) os) (hlw.out.on (below_regrown wr e os)) (htw.out.on (below_regrown wr e os)) (hrw'.out.on (below_regrown wr e os)))
      have cQ2 := fun e os => Calls.regrown_of (rRight_any v _ _ _ a' c' d hlen.out (grow (redrawn wr e) os) (hlw.out.on (below_regrown wr e os)) (htw.out.on (below_regrown wr e os)) (hrw'.out.on (below_regrown wr e os)))
      have cP3 := fun e os => Calls.regrown_of (Right_any (⟨v.hx, v.hy, C, v.st, v.en⟩ : Vh) _ _ _ l t d (by have := hl12.out; omega) hnuo.out (grow (redrawn wr e) os) (how.out.on (below_regrown wr e os)) (hqw.out.on (below_regrown wr e os)) (hrw'.out.on (below_regrown wr e os)))
      have cQ3 := fun e os => Calls.regrown_of (rRight_any (⟨v.hx, v.hy, C, v.st, v.en⟩ : Vh) _ _ _ l t d (by have := hl12.out; omega) (grow (redrawn wr e) os) (how.out.on (below_regrown wr e os)) (hqw.out.on (below_regrown wr e os)) (hrw'.out.on (below_regrown wr e os)))
      rw [hR1] at cP1 cQ1
      rw [hR2] at cP2 cQ2
      rw [hR3] at cP3 cQ3
      have n1 : (R1 != R1) = false := by simp
      have n2' : (R2 != R2) = false := by simp
      have n3 : (R3 != R3) = false := by simp
      have v0 := hV.cell 0
      have v1 := hV.cell 1
      have v2 := hV.cell 2
      have v3 := hV.cell 3
      have v4 := hV.cell 4
      have u0 := hW.cell 0
      have u1 := hW.cell 1
      have u2 := hW.cell 2
      have u3 := hW.cell 3
      have u4 := hW.cell 4
      simp at v0 v1 v2 v3 v4 u0 u1 u2 u3 u4
      have kv0 := cell_regrown v0
      have kv1 := cell_regrown v1
      have kv2 := cell_regrown v2
      have kv3 := cell_regrown v3
      have kv4 := cell_regrown v4
      have ku0 := cell_regrown u0
      have ku1 := cell_regrown u1
      have ku2 := cell_regrown u2
      have ku3 := cell_regrown u3
      have ku4 := cell_regrown u4
      have kcl := cell_regrown hcl
      clear hR1 hR2 hR3
      go_upto_region 12 with fail
      refine wp_region_quiet_below (by kernel_rfl) (by kernel_rfl) ?_
      repeat (go_big_quiet_step (first | with_reducible exact cP1 _ _ | with_reducible exact cQ1 _ _ | with_reducible exact cP2 _ _ | with_reducible exact cQ2 _ _ | with_reducible exact cP3 _ _ | with_reducible exact cQ3 _ _))
      refine wpQuiet_nil ?_
      intro _ hw'
      obtain ⟨⟨dq, osq⟩, hw''⟩ := hw'
      subst hw''
      have hbg := below_regrown wr dq osq
      have hbz := hbw'.out.trans (hbg.mono hbw'.out.size)
      go_wp2
      go_roundw
      case rel => exact ⟨k + 1, by go_num, hlt, hbz⟩
      case measure => simp [intOf]; omega
    · obtain rfl : k = 4 := by omega
      have hc := alike_any (⟨v.hx, v.hy, C, v.st, v.en⟩ : Vh) _ _ l t (by have := hl12.out; omega) hnuo.out wr (hg14.out.on hbw) (hro14.out.on hbw) (hqr14.out.on hbw)
      have hgw := Lib.hid (hg14.out.on hbw)
      have hBw := Lib.hid (hB14.out.trans (hbw.mono hB14.out.size))
      have u0 := hW.cell 0
      have u1 := hW.cell 1
      have u2 := hW.cell 2
      have u3 := hW.cell 3
      have u4 := hW.cell 4
      simp at u0 u1 u2 u3 u4
      go_wp2_with fail
      refine hc.mono ?_
      clear hc u0 u1 u2 u3 u4
      rintro e w15 ⟨rfl, hb15⟩
      have hcW := works_any w15 (hgw.out.on hb15)
      have hB15 := Lib.hid (hBw.out.trans (hb15.mono hBw.out.size))
      clear hb15
      go_wp2_with fail
      refine hcW.mono ?_
      clear hcW
      rintro e w16 ⟨rfl, hb16⟩
      have hBf := hB15.out.trans (hb16.mono hB15.out.size)
      go_wp2
      go_ret
      exact ⟨rfl, hBf⟩

end Go.Proofs.YteefkijmodcijaaDoor.feasTells

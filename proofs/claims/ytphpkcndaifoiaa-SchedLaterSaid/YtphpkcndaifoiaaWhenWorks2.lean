/-
  The chapter's examples hold.
-/
import Derived.Test.YtphpkcndaifoiaaWhenWorks
namespace Go.Proofs.Ytphpkcndaifoiaa.When
open Go.RowKit Go.Proofs.Ytphpkcndaifoiaa.Mem Go.Proofs.Ytphpkcndaifoiaa.Route
set_option linter.unusedVariables false

theorem kC1 : errT vC lC tC = 0 := by decide +kernel
theorem kC2 : homeT vC lC tC = 35 := by decide +kernel
theorem kC3 : timesL vC lC tC = [⟨13, 20, 22⟩, ⟨26, 26, 28⟩] := by decide +kernel
theorem kC4 : wayT vC lC tC = 14 ∧ waitT vC lC tC = 7 ∧ servT vC lC tC = 4 := by decide +kernel
theorem kC5 : errT vC [] tC = 0 ∧ homeT vC [] tC = 10 ∧ timesL vC [] tC = [] := by decide +kernel
theorem kC6 : errT ⟨vC.hx, vC.hy, vC.cp, vC.st, 34⟩ lC tC = 9 := by decide +kernel
theorem kC7 : errT ⟨vC.hx, vC.hy, vC.cp, 28, vC.en⟩ lC tC = 9 := by decide +kernel
theorem lC_len : lC.length ≤ 1000000 := by decide
theorem nil_nums : Nums [] := fun s hs => by cases hs

set_option maxRecDepth 100000 in
set_option maxHeartbeats 2000000 in
theorem works_any (w : World) : Calls Try.prog 17 #[] w fun e w' => e = .returned (.bool true) ∧ Below w.heap.size w w' := by
  go_enter Try.func17, Try.ntmps17
  go_wp2_with fail
  refine (chapter_any w).mono ?_
  rintro e w1 ⟨⟨ul, ut, rfl, hL, hT⟩, hB1⟩
  obtain ⟨xl, Nl, cl, rfl, hNl, _, hcl1, hcl2⟩ := hL.opened
  obtain ⟨xt, Nt, ct, rfl, hNt, hct1, hct2, _⟩ := hT.opened
  obtain rfl : Nl = 2 := hNl.out.symm
  obtain rfl : Nt = 1 := hNt.symm
  have hV : At (w1.alloc (.cells #[.int .i64 vC.hx, .int .i64 vC.hy, .int .i64 vC.cp, .int .i64 vC.st, .int .i64 vC.en] 30)) w1.heap.size 30 #[.int .i64 vC.hx, .int .i64 vC.hy, .int .i64 vC.cp, .int .i64 vC.st, .int .i64 vC.en] := At.new _ _ _
  have hbV : Below w1.heap.size w1 (w1.alloc (.cells #[.int .i64 vC.hx, .int .i64 vC.hy, .int .i64 vC.cp, .int .i64 vC.st, .int .i64 vC.en] 30)) := (Below.refl _ _).alloc (Nat.le_refl _) _
  have hLV := hL.on hbV
  have hTV := hT.on hbV
  have hBV := hB1.trans (hbV.mono hB1.size)
  have hc := Times_any vC _ _ lC tC lC_len lC_nums _ hLV hTV
  rw [kC1, kC2, kC3] at hc
  obtain ⟨n, hn⟩ : ∃ n, w1.heap.size = n := ⟨_, rfl⟩
  have hn' := Lib.hid hn
  rw [hn] at hV
  have hLV' := Lib.hid hLV
  have hTV' := Lib.hid hTV
  have hBV' := Lib.hid hBV
  have hVV := Lib.hid hV
  clear hL hT hB1 hbV hNl hLV hTV hBV hV hn
  go_wp2_with fail
  refine hc.mono ?_
  clear hc
  rintro e w2 ⟨⟨u, rfl, hu⟩, hb2⟩
  obtain ⟨x, N, cap, rfl, hN, hca, hcb, hx0⟩ := hu.opened
  obtain rfl : N = 2 := hN.symm
  obtain ⟨g, o, rfl, hg, c0, c1, c2⟩ := Tms.at hu (k := 0) rfl
  obtain ⟨g2, o2, eg, _, d0, d1, d2⟩ := Tms.at hu (k := 1) rfl
  simp only [Option.some.injEq, Addr.mk.injEq] at eg
  obtain ⟨rfl, rfl, _⟩ := eg
  simp at c0 c1 c2 d0 d1 d2
  have hV2 := hVV.out.keep hb2 hVV.out.inside
  have hL2 := hLV'.out.on hb2
  have hT2 := hTV'.out.on hb2
  have hB2 := hBV'.out.trans (hb2.mono hBV'.out.size)
  have p0 := hV2.cell 0
  have p1 := hV2.cell 1
  have p2 := hV2.cell 2
  have p3 := hV2.cell 3
  have p4 := hV2.cell 4
  have hn2 : n < w2.heap.size := hV2.inside
  simp at p0 p1 p2 p3 p4
  have hc := Spent_any vC _ _ lC tC lC_len lC_nums _ hL2 hT2
  rw [kC1, kC4.1, kC4.2.1, kC4.2.2] at hc
  have hL2' := Lib.hid hL2
  have hT2' := Lib.hid hT2
  have hB2' := Lib.hid hB2
  have hV2' := Lib.hid hV2
  have hnw := Lib.hid hn'.out
  clear hu hN hx0 hL2 hT2 hB2 hV2 hLV' hTV' hBV' hVV hb2 hn'
  rw [hnw.out]
  go_wp2_with fail
  refine hc.mono ?_
  clear hc c0 c1 c2 d0 d1 d2 p0 p1 p2 p3 p4 hn2
  rintro e w3 ⟨rfl, hb3⟩
  have hV3 := hV2'.out.keep hb3 hV2'.out.inside
  have hL3 := hL2'.out.on hb3
  have hT3 := hT2'.out.on hb3
  have hB3 := hB2'.out.trans (hb3.mono hB2'.out.size)
  have p0 := hV3.cell 0
  have p1 := hV3.cell 1
  have p2 := hV3.cell 2
  have p3 := hV3.cell 3
  have p4 := hV3.cell 4
  have hn2 : n < w3.heap.size := hV3.inside
  simp at p0 p1 p2 p3 p4
  have hc := Times_any vC _ _ [] tC (by decide) nil_nums _ (RowB.nil w3.heap.size w3 2) hT3
  rw [kC5.1, kC5.2.1, kC5.2.2] at hc
  have hL3' := Lib.hid hL3
  have hT3' := Lib.hid hT3
  have hB3' := Lib.hid hB3
  have hV3' := Lib.hid hV3
  clear hL3 hT3 hB3 hV3 hL2' hT2' hB2' hV2' hb3
  go_wp2_with fail
  refine hc.mono ?_
  clear hc p0 p1 p2 p3 p4 hn2
  rintro e w5 ⟨⟨u, rfl, hu⟩, hb5⟩
  obtain ⟨y, M, cbp, rfl, hM, _, _, _⟩ := hu.opened
  obtain rfl : M = 0 := hM.symm
  have hV5 := hV3'.out.keep hb5 hV3'.out.inside
  have hL5 := Lib.hid (hL3'.out.on hb5)
  have hT5 := Lib.hid (hT3'.out.on hb5)
  have hB5 := Lib.hid (hB3'.out.trans (hb5.mono hB3'.out.size))
  have p0 := hV5.cell 0
  have p1 := hV5.cell 1
  have p2 := hV5.cell 2
  have p3 := hV5.cell 3
  have p4 := hV5.cell 4
  have hn2 : n < w5.heap.size := hV5.inside
  simp at p0 p1 p2 p3 p4
  clear hu hM hV5 hL3' hT3' hB3' hV3' hb5
  go_upto_region 7 with fail
  go_region
  · go_upto_region 10 with fail
    have hbW : Below w5.heap.size w5 (((w5.alloc (.cells #[.int .i64 vC.hx, .int .i64 vC.hy, .int .i64 vC.cp, .int .i64 vC.st, .int .i64 34] 30)).alloc (.cells #[.int .i64 vC.hx, .int .i64 vC.hy, .int .i64 vC.cp, .int .i64 28, .int .i64 vC.en] 30)).drew) := Below.drew (((Below.refl _ _).alloc (Nat.le_refl _) _).alloc (by simp) _)
    have hS : At (((w5.alloc (.cells #[.int .i64 vC.hx, .int .i64 vC.hy, .int .i64 vC.cp, .int .i64 vC.st, .int .i64 34] 30)).alloc (.cells #[.int .i64 vC.hx, .int .i64 vC.hy, .int .i64 vC.cp, .int .i64 28, .int .i64 vC.en] 30)).drew) (w5.heap.size + 1) 30 #[.int .i64 vC.hx, .int .i64 vC.hy, .int .i64 vC.cp, .int .i64 28, .int .i64 vC.en] := (At.new_ _ _ _ (by simp)).drew
    have hLW := hL5.out.on hbW
    have hTW := hT5.out.on hbW
    have hBW := Lib.hid (hB5.out.trans (hbW.mono hB5.out.size))
    have hc := late_yes ⟨vC.hx, vC.hy, vC.cp, vC.st, 34⟩ _ _ lC tC lC_len lC_nums kC6 _ hLW hTW
    have hLW' := Lib.hid hLW
    have hTW' := Lib.hid hTW
    have hS' := Lib.hid hS
    clear hbW hLW hTW hS
    go_wp2_with fail
    refine hc.mono ?_
    clear hc
    rintro e w6 ⟨rfl, hb6⟩
    have hS6 := hS'.out.keep hb6 hS'.out.inside
    have hc := late_yes ⟨vC.hx, vC.hy, vC.cp, 28, vC.en⟩ _ _ lC tC lC_len lC_nums kC7 _ (hLW'.out.on hb6) (hTW'.out.on hb6)
    have hB6 := Lib.hid (hBW.out.trans (hb6.mono hBW.out.size))
    have s0 := hS6.cell 0
    have s1 := hS6.cell 1
    have s2 := hS6.cell 2
    have s3 := hS6.cell 3
    have s4 := hS6.cell 4
    have hn6 := hS6.inside
    simp at s0 s1 s2 s3 s4
    clear hb6 hS6 hS'
    go_wp2_with fail
    refine hc.mono ?_
    clear hc
    rintro e w7 ⟨rfl, hb7⟩
    have hB7 := hB6.out.trans (hb7.mono hB6.out.size)
    clear hb7
    go_wp2
    go_ret
    exact ⟨rfl, hB7⟩
  · go_upto_region 10 with fail
    have hbW : Below w5.heap.size w5 (((w5.alloc (.cells #[.int .i64 vC.hx, .int .i64 vC.hy, .int .i64 vC.cp, .int .i64 28, .int .i64 vC.en] 30)).alloc (.cells #[.int .i64 vC.hx, .int .i64 vC.hy, .int .i64 vC.cp, .int .i64 vC.st, .int .i64 34] 30)).drew) := Below.drew (((Below.refl _ _).alloc (Nat.le_refl _) _).alloc (by simp) _)
    have hS : At (((w5.alloc (.cells #[.int .i64 vC.hx, .int .i64 vC.hy, .int .i64 vC.cp, .int .i64 28, .int .i64 vC.en] 30)).alloc (.cells #[.int .i64 vC.hx, .int .i64 vC.hy, .int .i64 vC.cp, .int .i64 vC.st, .int .i64 34] 30)).drew) (w5.heap.size) 30 #[.int .i64 vC.hx, .int .i64 vC.hy, .int .i64 vC.cp, .int .i64 28, .int .i64 vC.en] := ((At.new _ _ _).alloc _).drew
    have hLW := hL5.out.on hbW
    have hTW := hT5.out.on hbW
    have hBW := Lib.hid (hB5.out.trans (hbW.mono hB5.out.size))
    have hc := late_yes ⟨vC.hx, vC.hy, vC.cp, vC.st, 34⟩ _ _ lC tC lC_len lC_nums kC6 _ hLW hTW
    have hLW' := Lib.hid hLW
    have hTW' := Lib.hid hTW
    have hS' := Lib.hid hS
    clear hbW hLW hTW hS
    go_wp2_with fail
    refine hc.mono ?_
    clear hc
    rintro e w6 ⟨rfl, hb6⟩
    have hS6 := hS'.out.keep hb6 hS'.out.inside
    have hc := late_yes ⟨vC.hx, vC.hy, vC.cp, 28, vC.en⟩ _ _ lC tC lC_len lC_nums kC7 _ (hLW'.out.on hb6) (hTW'.out.on hb6)
    have hB6 := Lib.hid (hBW.out.trans (hb6.mono hBW.out.size))
    have s0 := hS6.cell 0
    have s1 := hS6.cell 1
    have s2 := hS6.cell 2
    have s3 := hS6.cell 3
    have s4 := hS6.cell 4
    have hn6 := hS6.inside
    simp at s0 s1 s2 s3 s4
    clear hb6 hS6 hS'
    go_wp2_with fail
    refine hc.mono ?_
    clear hc
    rintro e w7 ⟨rfl, hb7⟩
    have hB7 := hB6.out.trans (hb7.mono hB6.out.size)
    clear hb7
    go_wp2
    go_ret
    exact ⟨rfl, hB7⟩

end Go.Proofs.Ytphpkcndaifoiaa.When

import Derived.Test.YtlbghdiebjldjaaGreatDoorPkPlanAlike

namespace Go.Proofs.YtlbghdiebjldjaaGreatDoor.Plan
open Go.RowKit Go.Sort Go.Proofs.YtlbghdiebjldjaaGreatDoor.Mem Go.Proofs.YtlbghdiebjldjaaGreatDoor.Route Go.Proofs.YtlbghdiebjldjaaGreatDoor.When Go.Proofs.YtlbghdiebjldjaaGreatDoor.Load Go.Proofs.YtlbghdiebjldjaaGreatDoor.Ins Go.Proofs.YtlbghdiebjldjaaGreatDoor.Feas
set_option linter.unusedVariables false
def chTC : Array Value := #[.int .i64 5, .int .i64 0, .int .i64 9, .int .i64 0, .int .i64 0, .int .i64 20, .int .i64 0, .int .i64 30, .int .i64 3, .int .i64 1, .int .i64 15, .int .i64 0, .int .i64 18, .int .i64 0, .int .i64 0, .int .i64 40, .int .i64 0, .int .i64 40, .int .i64 2, .int .i64 0]
def chVC : Array Value := #[.int .i64 0, .int .i64 0, .int .i64 5, .int .i64 0, .int .i64 40, .int .i64 20, .int .i64 0, .int .i64 5, .int .i64 0, .int .i64 40]
theorem chapter_any (w : World) : Calls Tryz.prog 29 #[] w fun e w' => e = .returned (.tuple #[.slice (some ⟨w.heap.size + 1, 0, none⟩) 2 2, .slice (some ⟨w.heap.size, 0, none⟩) 2 2]) ∧ w' = (w.alloc (.cells chTC 72)).alloc (.cells chVC 64) := by
 go_enter Tryz.func29, Tryz.ntmps29
 go_wp2
 refine bodyPost_ret (v := .tuple #[.slice (some ⟨w.heap.size + 1, 0, none⟩) 2 2, .slice (some ⟨w.heap.size, 0, none⟩) 2 2]) (by simp [results, Tryz.results29, go_sem]) rfl ?_
 exact ⟨rfl, rfl⟩
theorem pair_any (r : Int) (w : World) : Calls Tryz.prog 38 #[.int .i64 r] w fun e w' => e = .returned (.slice (some ⟨w.heap.size, 0, none⟩) 2 2) ∧ w' = w.alloc (.cells #[.int .i64 r, .int .i64 0, .int .i64 r, .int .i64 1] 75) := by
 go_enter Tryz.func38, Tryz.ntmps38
 go_wp2
 go_ret
 exact ⟨rfl, rfl⟩
theorem ch_mem (w : World) : Vhs ((w.alloc (.cells chTC 72)).alloc (.cells chVC 64)).heap.size ((w.alloc (.cells chTC 72)).alloc (.cells chVC 64)) (.slice (some ⟨w.heap.size + 1, 0, none⟩) 2 2) chV ∧
 Rqs ((w.alloc (.cells chTC 72)).alloc (.cells chVC 64)).heap.size ((w.alloc (.cells chTC 72)).alloc (.cells chVC 64)) (.slice (some ⟨w.heap.size, 0, none⟩) 2 2) chT := by
 have h1 := World.ownsRow_lit (base := 0) (size := 5) (e := 64) (w.alloc (.cells chTC 72)) chVC 2 (Nat.zero_le _) (by unfold maxLen; omega) rfl
 have h2 := (World.ownsRow_lit (base := 0) (size := 10) (e := 72) w chTC 2 (Nat.zero_le _) (by unfold maxLen; omega) rfl).alloc (.cells chVC 64)
 simp only [World.size_alloc] at h1
 exact ⟨RowB.of_owns (rows := chV.map vhV) h1 rfl (fun r hr => by obtain ⟨s, _, rfl⟩ := List.mem_map.1 hr; rfl) (Nat.le_refl _), RowB.of_owns (rows := chT.map rqV) h2 rfl (fun r hr => by obtain ⟨s, _, rfl⟩ := List.mem_map.1 hr; rfl) (Nat.le_refl _)⟩
theorem refSame_same (sv tv : Value) (xs : List (List (Int × Int))) (hx : xs.length ≤ 1000000) (hxl : ∀ l ∈ xs, l.length ≤ 1000000) (w : World) (hI : Rws w.heap.size w sv xs) (hJ : Rws w.heap.size w tv xs) :
 Calls Tryz.prog 27 #[sv, tv] w fun e w' => e = .returned (.bool true) ∧ Below w.heap.size w w' := by
 have h := refSame_any sv tv xs xs hx hxl w hI hJ
 rwa [decide_eq_true (rfl : xs = xs)] at h
theorem refInts_same (sv tv : Value) (xs : List Int) (hx : xs.length ≤ 140737488351232) (w : World) (hI : Ints w.heap.size w sv xs) (hJ : Ints w.heap.size w tv xs) :
 Calls Tryz.prog 28 #[sv, tv] w fun e w' => e = .returned (.bool true) ∧ Below w.heap.size w w' := by
 have h := refInts_any sv tv xs xs hx w hI hJ
 rwa [decide_eq_true (rfl : xs = xs)] at h
structure Own1 (q : Nat) (w : World) (W : World) (p : Nat) (S : St) : Prop where
 ex : ∃ D G, PlanAt D G W p S ∧ (∀ k, G k → q ≤ k)
 ok : Ok S
 sg : Sg W
 b : Below q w W
theorem Own1.on {q : Nat} {w W W' : World} {p : Nat} {S : St} (h : Own1 q w W p S) (hb : Below W.heap.size W W') (hq : q ≤ W.heap.size) : Own1 q w W' p S := by
 obtain ⟨D, G, h1, h2⟩ := h.ex
 exact ⟨⟨D, G, h1.on hb, h2⟩, h.ok, h.sg.on hb, h.b.trans (hb.mono hq)⟩
theorem Own1.step {q : Nat} {w W W' : World} {p : Nat} {S' : St} {G D' G' : Nat → Prop} (hb : Below q w W) (hsg : Sg W) (hg0 : 1 < q ∧ 0 < q) (hq : q ≤ W.heap.size) (hG0 : ∀ k, G k → q ≤ k) (h : PlanAt D' G' W' p S') (hG : ∀ k, G' k → G k ∨ W.heap.size ≤ k) (hc : Chg G W W') (ho : Ok S') : Own1 q w W' p S' := by
 have hbb := hc.below hq hG0
 exact ⟨⟨D', G', h, fun k hk => (hG k hk).elim (hG0 k) (fun hl => Nat.le_trans hq hl)⟩, ho, hsg.keep hbb hg0, hb.trans hbb⟩
set_option maxRecDepth 100000 in
set_option maxHeartbeats 16000000 in
theorem works_any (w : World) (hsg : Sg w) : Calls Tryz.prog 13 #[] w fun e w' => e = .returned (.bool true) ∧ Below w.heap.size w w' := by
 obtain ⟨q, hq⟩ : ∃ q, w.heap.size = q := ⟨_, rfl⟩
 have hg0 := hsg.pos
 obtain ⟨w1, hw1⟩ : ∃ w1, (w.alloc (.cells chTC 72)).alloc (.cells chVC 64) = w1 := ⟨_, rfl⟩
 have hm := ch_mem w
 rw [hw1, hq] at hm
 have hs1 : w1.heap.size = q + 2 := by rw [← hw1]; simp [hq]
 have hb1 : Below q w w1 := by rw [← hw1]; exact ((Below.refl _ _).alloc (by omega) _).alloc (by simp; omega) _
 have hsg1 := hsg.on (by rw [hq]; exact hb1)
 have hNew := New_any _ _ chV chT w1 hm.1 hm.2 (.inr ⟨_, _, _, rfl⟩) (.inr ⟨_, _, _, rfl⟩) (by decide) (by decide)
 rw [show newE chV chT = 0 by decide +kernel] at hNew
 have hCh := chapter_any w
 rw [hq] at hg0 hCh
 have hw1' := Lib.hid hw1
 have hq' := Lib.hid hq
 have hT1 := Lib.hid hm.2
 have hb1' := Lib.hid hb1
 have hg2 : 1 < q + 2 ∧ 0 < q + 2 := by omega
 clear hw1 hq hm hb1 hg0
 go_enter Tryz.func13, Tryz.ntmps13
 go_wp2_with fail
 refine hCh.mono ?_
 clear hCh
 rintro e w1' ⟨rfl, rfl⟩
 rw [hw1'.out]
 go_wp2_with fail
 refine hNew.mono ?_
 clear hNew
 rintro e w2 ⟨-, hN, hb2⟩
 obtain ⟨p, rfl, G, hG, hGD⟩ := hN (by trivial)
 have hP2 : Hid (Own1 (q + 2) w1 w2 p ch0) := Lib.hid ⟨⟨G, G, hGD G (fun k h => h) (fun k h => .inl h), fun k hk => by have := (hG k hk).1; omega⟩, ch0_ok, hsg1.on hb2, by rw [← hs1]; exact hb2⟩
 have hs2 : q + 2 ≤ w2.heap.size := by have := hb2.size; omega
 clear hN hG hGD hb2 hsg1
 obtain ⟨D2, G2, hA, hG0⟩ := hP2.out.ex
 have hC := Price_any 0 w2 hA ch0_ok hP2.out.sg
 rw [ch_p0.1, ch_p0.2.1, ch_p0.2.2] at hC
 clear hA hG0
 go_wp2_with fail
 refine hC.mono ?_
 clear hC
 rintro e w3 ⟨rfl, hb⟩
 have hP3 := Lib.hid (hP2.out.on hb hs2)
 have hs3 : q + 2 ≤ w3.heap.size := Nat.le_trans hs2 hb.size
 clear hb
 obtain ⟨D3, G3, hA, hG0⟩ := hP3.out.ex
 have hC := Price_any 1 w3 hA ch0_ok hP3.out.sg
 rw [ch_p1.1, ch_p1.2.1, ch_p1.2.2] at hC
 clear hA hG0
 go_wp2_with fail
 refine hC.mono ?_
 clear hC
 rintro e w4 ⟨rfl, hb⟩
 have hP4 := Lib.hid (hP3.out.on hb hs3)
 have hs4 : q + 2 ≤ w4.heap.size := Nat.le_trans hs3 hb.size
 clear hb
 obtain ⟨D4, G4, hA, hG0⟩ := hP4.out.ex
 have hC := Price_any 2 w4 hA ch0_ok hP4.out.sg
 rw [ch_p2] at hC
 clear hA hG0
 go_wp2_with fail
 refine hC.mono ?_
 clear hC
 rintro e w5 ⟨rfl, hb⟩
 have hP5 := Lib.hid (hP4.out.on hb hs4)
 have hs5 : q + 2 ≤ w5.heap.size := Nat.le_trans hs4 hb.size
 clear hb
 obtain ⟨D5, G5, hA, hG0⟩ := hP5.out.ex
 have hC := Put_any 0 w5 hA ch0_ok hP5.out.sg
 rw [ch_p0.2.1, ch_p0.2.2] at hC
 have hG0' := Lib.hid hG0
 clear hA hG0
 go_wp2_with fail
 refine hC.mono ?_
 clear hC
 rintro e w6 ⟨rfl, ⟨D', G', hA1, hg1, hG1⟩, hc1⟩
 rw [show putS ch0 0 = ch1 from rfl] at hA1
 have hP6 := Lib.hid (Own1.step hP5.out.b hP5.out.sg hg2 hs5 hG0'.out hA1 hG1 hc1 ch1_ok)
 have hs6 : q + 2 ≤ w6.heap.size := Nat.le_trans hs5 hc1.size
 clear hA1 hg1 hG1 hc1 hG0'
 obtain ⟨D6, G6, hA, hG0⟩ := hP6.out.ex
 have hC := Put_any 1 w6 hA ch1_ok hP6.out.sg
 rw [ch_q1.1, ch_q1.2] at hC
 have hG0' := Lib.hid hG0
 clear hA hG0
 go_wp2_with fail
 refine hC.mono ?_
 clear hC
 rintro e w7 ⟨rfl, ⟨D', G', hA1, hg1, hG1⟩, hc1⟩
 rw [show putS ch1 1 = ch2 from rfl] at hA1
 have hP7 := Lib.hid (Own1.step hP6.out.b hP6.out.sg hg2 hs6 hG0'.out hA1 hG1 hc1 ch2_ok)
 have hs7 : q + 2 ≤ w7.heap.size := Nat.le_trans hs6 hc1.size
 clear hA1 hg1 hG1 hc1 hG0'
 obtain ⟨D7, G7, hA, hG0⟩ := hP7.out.ex
 have hC := Put_any 1 w7 hA ch2_ok hP7.out.sg
 rw [ch_q2] at hC
 have hG0' := Lib.hid hG0
 clear hA hG0
 go_wp2_with fail
 refine hC.mono ?_
 clear hC
 rintro e w8 ⟨rfl, ⟨D', G', hA1, hg1, hG1⟩, hc1⟩
 rw [putS_no (S := ch2) (r := 1) (by rw [ch_q2]; decide)] at hA1
 have hP8 := Lib.hid (Own1.step hP7.out.b hP7.out.sg hg2 hs7 hG0'.out hA1 hG1 hc1 ch2_ok)
 have hs8 : q + 2 ≤ w8.heap.size := Nat.le_trans hs7 hc1.size
 clear hA1 hg1 hG1 hc1 hG0'
 obtain ⟨D8, G8, hA, hG0⟩ := hP8.out.ex
 have hC := Routes_any w8 hA ch2_ok
 clear hA hG0
 go_wp2_with fail
 refine hC.mono ?_
 clear hC
 rintro e w9 ⟨⟨u9, rfl, us9, hu9⟩, hb⟩
 have hP9 := Lib.hid (hP8.out.on hb hs8)
 have hs9 : q + 2 ≤ w9.heap.size := Nat.le_trans hs8 hb.size
 have hR9 := Lib.hid hu9.rws
 obtain ⟨xr, cr, rfl, -, -⟩ := owns_slice hu9.1
 clear hb hu9
 have hC := pair_any 0 w9
 go_wp2_with fail
 refine hC.mono ?_
 clear hC
 rintro e wa ⟨rfl, hwa⟩
 obtain ⟨m, hm⟩ : ∃ m, w9.heap.size = m := ⟨_, rfl⟩
 have hsa : wa.heap.size = m + 1 := by rw [hwa]; simp [hm]
 have hba : Below w9.heap.size w9 wa := by rw [hwa]; exact (Below.refl _ _).alloc (Nat.le_refl _) _
 have hka : At wa m 75 #[.int .i64 0, .int .i64 0, .int .i64 0, .int .i64 1] := by rw [hwa]; exact At.new_ _ _ _ hm.symm
 have hC := pair_any 1 wa
 clear hwa
 go_wp2_with fail
 refine hC.mono ?_
 clear hC
 rintro e wb ⟨rfl, hwb⟩
 have hsb : wb.heap.size = m + 2 := by rw [hwb]; simp [hsa]
 have hbb : Below wa.heap.size wa wb := by rw [hwb]; exact (Below.refl _ _).alloc (Nat.le_refl _) _
 have hkb : At wb (m + 1) 75 #[.int .i64 1, .int .i64 0, .int .i64 1, .int .i64 1] := by rw [hwb]; exact At.new_ _ _ _ hsa.symm
 have hka2 := hka.keep hbb hka.inside
 clear hwb
 simp only [hsa]
 obtain ⟨wc, hwc⟩ : ∃ wc, wb.alloc (.cells #[.slice (some ⟨m, 0, none⟩) 2 2, .slice (some ⟨m + 1, 0, none⟩) 2 2] 59) = wc := ⟨_, rfl⟩
 have hbc : Below wb.heap.size wb wc := by rw [← hwc]; exact (Below.refl _ _).alloc (Nat.le_refl _) _
 have hsc : wc.heap.size = m + 3 := by rw [← hwc]; simp [hsb]
 have hkc : At wc (m + 2) 59 #[.slice (some ⟨m, 0, none⟩) 2 2, .slice (some ⟨m + 1, 0, none⟩) 2 2] := by rw [← hwc]; exact At.new_ _ _ _ hsb.symm
 have hall : Below w9.heap.size w9 wc := hba.trans ((hbb.mono hba.size).trans (hbc.mono (Nat.le_trans hba.size hbb.size)))
 have hRl : Rws wc.heap.size wc (.slice (some ⟨m + 2, 0, none⟩) 2 2) ch2.rows := by
  rw [ch_rows]
  have row2 : ∀ (r : Int) (b : Nat), At wc b 75 #[.int .i64 r, .int .i64 0, .int .i64 r, .int .i64 1] → Row wc.heap.size wc (.slice (some ⟨b, 0, none⟩) 2 2) [(r, 0), (r, 1)] := fun r b hb =>
   RowB.of_at (m := 2) (rows := [stV (r, 0), stV (r, 1)]) hb hb.inside (fun r hr => by simp [stV] at hr; rcases hr with rfl | rfl <;> rfl) (fun i u hu => by simpa [stV] using hu) (Nat.le_refl _) (by decide)
  refine ⟨[.slice (some ⟨m, 0, none⟩) 2 2, .slice (some ⟨m + 1, 0, none⟩) 2 2], rfl, RowB.of_at (m := 1) (rows := [[.slice (some ⟨m, 0, none⟩) 2 2], [.slice (some ⟨m + 1, 0, none⟩) 2 2]]) hkc hkc.inside (fun r hr => by simp at hr; rcases hr with rfl | rfl <;> rfl) (fun i u hu => by simpa using hu) (Nat.le_refl _) (by decide), fun i u l hu hl => ?_⟩
  match i with
  | 0 =>
   simp at hu hl
   subst hu; subst hl
   exact row2 0 m (hka2.keep hbc hka2.inside)
  | 1 =>
   simp at hu hl
   subst hu; subst hl
   exact row2 1 (m + 1) (hkb.keep hbc hkb.inside)
  | i + 2 => simp at hu
 have hPc := Lib.hid (hP9.out.on hall hs9)
 have hsc' : q + 2 ≤ wc.heap.size := Nat.le_trans hs9 hall.size
 have hC := refSame_same _ _ ch2.rows (by rw [ch_rows]; decide) (by rw [ch_rows]; decide) wc (hR9.out.on hall) hRl
 have hwc' := Lib.hid hwc
 have hsb' := Lib.hid hsb
 clear hRl hkc hka hka2 hkb hba hbb hbc hall hwc hsa hm hsb hsc
 go_wp2_with fail
 try simp only [hsb'.out]
 try rw [hwc'.out]
 refine hC.mono ?_
 clear hC
 rintro e wd ⟨rfl, hb⟩
 have hPd := Lib.hid (hPc.out.on hb hsc')
 have hsd : q + 2 ≤ wd.heap.size := Nat.le_trans hsc' hb.size
 clear hb
 obtain ⟨Dd, Gd, hA, hG0⟩ := hPd.out.ex
 have hC := All_any wd hA ch2_ok
 clear hA hG0
 go_wp2_with fail
 refine hC.mono ?_
 clear hC
 rintro e we ⟨⟨ue, rfl, hue⟩, hb⟩
 have hPe := Lib.hid (hPd.out.on hb hsd)
 have hse : q + 2 ≤ we.heap.size := Nat.le_trans hsd hb.size
 have hIe := Lib.hid (Ints.of_owns (B := we.heap.size) hue rfl (Nat.le_refl _))
 obtain ⟨xe, ce, rfl, -, -⟩ := owns_slice hue
 clear hb hue
 obtain ⟨me, hme⟩ : ∃ m, we.heap.size = m := ⟨_, rfl⟩
 obtain ⟨wf, hwf⟩ : ∃ wf, we.alloc (.cells #[.int .i64 0, .int .i64 1] 3) = wf := ⟨_, rfl⟩
 have hbf : Below we.heap.size we wf := by rw [← hwf]; exact (Below.refl _ _).alloc (Nat.le_refl _) _
 have hkf : At wf me 3 #[.int .i64 0, .int .i64 1] := by rw [← hwf]; exact At.new_ _ _ _ hme.symm
 have hIf : Ints wf.heap.size wf (.slice (some ⟨me, 0, none⟩) 2 2) (allS ch2) := by
  rw [ch_all]
  exact RowB.of_at (m := 1) (rows := [[.int .i64 0], [.int .i64 1]]) hkf hkf.inside (fun r hr => by simp at hr; rcases hr with rfl | rfl <;> rfl) (fun i u hu => by simpa using hu) (Nat.le_refl _) (by decide)
 have hPf := Lib.hid (hPe.out.on hbf hse)
 have hsf : q + 2 ≤ wf.heap.size := Nat.le_trans hse hbf.size
 have hC := refInts_same _ _ (allS ch2) (by rw [ch_all]; decide) wf (hIe.out.on hbf) hIf
 have hwf' := Lib.hid hwf
 have hme' := Lib.hid hme
 clear hIf hkf hbf hwf hme
 go_wp2_with fail
 try simp only [hme'.out]
 try rw [hwf'.out]
 refine hC.mono ?_
 clear hC
 rintro e wg ⟨rfl, hb⟩
 have hPg := Lib.hid (hPf.out.on hb hsf)
 have hsg9 : q + 2 ≤ wg.heap.size := Nat.le_trans hsf hb.size
 clear hb
 obtain ⟨Dg, Gg, hA, hG0⟩ := hPg.out.ex
 have hC := Total_any wg hA ch2_ok
 rw [ch_tot] at hC
 clear hA hG0
 go_wp2_with fail
 refine hC.mono ?_
 clear hC
 rintro e w10 ⟨rfl, hb⟩
 have hP10 := Lib.hid (hPg.out.on hb hsg9)
 have hs10 : q + 2 ≤ w10.heap.size := Nat.le_trans hsg9 hb.size
 clear hb
 obtain ⟨D10, G10, hA, hG0⟩ := hP10.out.ex
 have hC := Take_any 0 w10 hA ch2_ok
 rw [ch_t2] at hC
 have hG0' := Lib.hid hG0
 clear hA hG0
 go_wp2_with fail
 refine hC.mono ?_
 clear hC
 rintro e w11 ⟨rfl, ⟨D', G', hA1, hg1, hG1⟩, hc1⟩
 rw [show takeS ch2 0 = ch3 from rfl] at hA1
 have hP11 := Lib.hid (Own1.step hP10.out.b hP10.out.sg hg2 hs10 hG0'.out hA1 hG1 hc1 ch3_ok)
 have hs11 : q + 2 ≤ w11.heap.size := Nat.le_trans hs10 hc1.size
 clear hA1 hg1 hG1 hc1 hG0'
 obtain ⟨D11, G11, hA, hG0⟩ := hP11.out.ex
 have hC := Take_any 0 w11 hA ch3_ok
 rw [ch_t3] at hC
 have hG0' := Lib.hid hG0
 clear hA hG0
 go_wp2_with fail
 refine hC.mono ?_
 clear hC
 rintro e w12 ⟨rfl, ⟨D', G', hA1, hg1, hG1⟩, hc1⟩
 rw [takeS_no (S := ch3) (r := 0) (by decide +kernel)] at hA1
 have hP12 := Lib.hid (Own1.step hP11.out.b hP11.out.sg hg2 hs11 hG0'.out hA1 hG1 hc1 ch3_ok)
 have hs12 : q + 2 ≤ w12.heap.size := Nat.le_trans hs11 hc1.size
 clear hA1 hg1 hG1 hc1 hG0'
 have hC := New_any (.slice none 0 0) _ [] chT w12 (RowB.nil _ _ _) ((hT1.out.keep (B := w1.heap.size) (by rw [hs1]; exact hP12.out.b) (Nat.le_refl _)).more (by omega)) (.inl rfl) (.inr ⟨_, _, _, rfl⟩) (by decide) (by decide)
 rw [show newE [] chT = 11 by decide +kernel] at hC
 go_wp2_with fail
 refine hC.mono ?_
 clear hC
 rintro e w13 ⟨hN, -, hb⟩
 obtain rfl := hN (by decide)
 have hP13 := Lib.hid (hP12.out.on hb hs12)
 have hs13 : q + 2 ≤ w13.heap.size := Nat.le_trans hs12 hb.size
 clear hb hN
 obtain ⟨D13, G13, hA, hG0⟩ := hP13.out.ex
 have hC := Total_any w13 hA ch3_ok
 rw [ch_tot3] at hC
 clear hA hG0
 go_wp2_with fail
 refine hC.mono ?_
 clear hC
 rintro e w14 ⟨rfl, hb⟩
 have hfin := Lib.hid (hb1'.out.trans ((hP13.out.on hb hs13).b.mono (by omega : q ≤ q + 2)))
 clear hb
 go_wp2
 go_ret
 exact ⟨rfl, by rw [hq'.out]; exact hfin.out⟩
def actV (x : Int × Int) : List Value := [.int .u8 x.1, .int .u8 x.2]
def Acts (B : Nat) (W : World) (v : Value) (l : List (Int × Int)) : Prop := RowB B W v 2 (l.map actV)
theorem Acts.opened {B : Nat} {W : World} {v : Value} {t : List (Int × Int)} (h : Acts B W v t) : ∃ x N cap, v = .slice x N cap ∧ t.length = N ∧ N ≤ cap ∧ cap ≤ maxLen := by
 obtain ⟨x, cap, rfl, h1, h2, h0, _⟩ := h
 exact ⟨x, t.length, cap, by simp, rfl, by simpa using h1, h2⟩
theorem Acts.at {B : Nat} {W : World} {x : Option Addr} {n cap : Nat} {l : List (Int × Int)} (h : Acts B W (.slice x n cap) l) {k : Nat} {y : Int × Int} (hk : l[k]? = some y) :
 ∃ g o, x = some ⟨g, o, none⟩ ∧ g < B ∧ W.cell? ⟨g, o + k * 2, none⟩ = some (.int .u8 y.1) ∧ W.cell? ⟨g, o + k * 2 + 1, none⟩ = some (.int .u8 y.2) := by
 obtain ⟨g, o, e, hg, hc⟩ := RowB.row h (j := k) (r := actV y) (by rw [List.getElem?_map, hk]; rfl)
 exact ⟨g, o, e, hg, hc 0 _ rfl, hc 1 _ rfl⟩
theorem newE_drawn {M : Nat} {W : World} {uf ut : Value} {vs : List Vh} {t : List Rq} (h : PartsAt M W uf ut vs t) : newE vs t = 0 := newE_ok (by have := h.cnt; omega) (fun v hv => (h.vdr v hv).1) (fun q hq => (h.tdr q hq).1)
theorem new_drawn {M : Nat} {W : World} {uf ut : Value} {vs : List Vh} {t : List Rq} (h : PartsAt M W uf ut vs t) : Ok (newS vs t) := new_Ok h.cnt (by have := h.tl; omega) (fun q hq => (h.tdr q hq).1) (fun v hv => (h.vdr v hv).1)
theorem own_plain {W : World} {b s n : Nat} {e : TypeId} {v : Value} {xs : List Value} (h : W.ownsRow b e s v n xs) : Plain v := by
 rcases h.2 with ⟨rfl, -⟩ | ⟨g, c, cur, rfl, -⟩
 · exact .inl rfl
 · exact .inr ⟨_, _, _, rfl⟩
theorem PartsAt.mem {M : Nat} {W : World} {uf ut : Value} {vs : List Vh} {t : List Rq} (h : PartsAt M W uf ut vs t) : Vhs W.heap.size W uf vs ∧ Rqs W.heap.size W ut t :=
 ⟨RowB.of_owns (rows := vs.map vhV) h.ovs (by simp) (fun r hr => by obtain ⟨s, _, rfl⟩ := List.mem_map.1 hr; rfl) (Nat.le_refl _), RowB.of_owns (rows := t.map rqV) h.ot (by simp) (fun r hr => by obtain ⟨s, _, rfl⟩ := List.mem_map.1 hr; rfl) (Nat.le_refl _)⟩
theorem Own1.plan {q : Nat} {w W : World} {p : Nat} {S : St} (h : Own1 q w W p S) : ∃ D G, PlanAt D G W p S := by
 obtain ⟨D, G, h1, -⟩ := h.ex
 exact ⟨D, G, h1⟩
theorem Own1.put {q : Nat} {w W W' : World} {p : Nat} {S S' : St} {D G : Nat → Prop} (h : Own1 q w W p S) (hG0 : ∀ k, G k → q ≤ k) (hg0 : 1 < q ∧ 0 < q) (hq : q ≤ W.heap.size) (hp : ∃ D' G', PlanAt D' G' W' p S' ∧ Grew D D' W W' ∧ ∀ k, G' k → G k ∨ W.heap.size ≤ k) (hc : Chg G W W') (ho : Ok S') : Own1 q w W' p S' ∧ q ≤ W'.heap.size := by
 obtain ⟨D', G', h1, h2, h3⟩ := hp
 exact ⟨Own1.step h.b h.sg hg0 hq hG0 h1 h3 hc ho, Nat.le_trans hq hc.size⟩
end Go.Proofs.YtlbghdiebjldjaaGreatDoor.Plan

import Derived.Test.YtpefdmkfmcjfnaaPkMsPSmall

namespace Go.Proofs.Ytpefdmkfmcjfnaa.Mp
open Go.RowKit Go.Sort Go.Proofs.Ytpefdmkfmcjfnaa.Mem Go.Proofs.Ytpefdmkfmcjfnaa.Route Go.Proofs.Ytpefdmkfmcjfnaa.Oct Go.Proofs.Ytpefdmkfmcjfnaa.Ms Go.Proofs.Ytpefdmkfmcjfnaa.Part
set_option linter.unusedVariables false
def lessM (m : Ms) : Ms :=
 if m.kind = 1 then { m with req := 0, rsv := 0, rq := zRq }
 else if m.kind = 2 then { m with car := 0, dig := zD }
 else if m.kind = 3 then { m with marks := [] }
 else if m.kind = 4 then { m with car := 0, bid := 0, nonce := 0 }
 else if m.kind = 5 then { m with oc := zOc }
 else m
def lessV (m : Ms) (v : Value) : Value := if m.kind = 3 then nilS else v
theorem less_ok {m : Ms} (h : m.ok) : (lessM m).ok := by
 unfold lessM
 split
 · exact ⟨h.dig, h.marks⟩
 split
 · exact ⟨rfl, h.marks⟩
 split
 · exact ⟨h.dig, fun p hp => by cases hp⟩
 split
 · exact ⟨h.dig, h.marks⟩
 split
 · exact ⟨h.dig, h.marks⟩
 · exact h
def blankB (m : Ms) : Bool :=
 decide (m.car = 0) && (decide (m.req = 0) && (decide (m.rsv = 0) && (rqB m.rq zRq && ((m.dig == zD) && (decide (m.marks.length = 0) && (decide (m.bid = 0) && (decide (m.nonce = 0) && ocE m.oc zOc)))))))
theorem blank_iff (m : Ms) : blankB m = true ↔ m = { z0 with kind := m.kind, rnd := m.rnd } := by
 obtain ⟨a0, a1, a2, a3, a4, a5, a6, a7, a8, a9, a10⟩ := m
 simp [blankB, rqB_iff, ocE_iff, z0]
theorem less_bare (m : Ms) : (lessM m = { z0 with kind := (lessM m).kind, rnd := (lessM m).rnd }) ↔ m = bareM m := by
 obtain ⟨a0, a1, a2, a3, a4, a5, a6, a7, a8, a9, a10⟩ := m
 unfold lessM bareM
 by_cases h1 : a0 = 1
 · simp [h1, z0]
 by_cases h2 : a0 = 2
 · simp [h2, z0]
 by_cases h3 : a0 = 3
 · simp [h3, z0]
 by_cases h4 : a0 = 4
 · simp [h4, z0]
 by_cases h5 : a0 = 5
 · simp [h5, z0]
 · simp [h1, h2, h3, h4, h5, z0]
theorem may_is (m : Ms) : (betB m.rnd 0 15 && (tabB m && blankB (lessM m))) = mayB m := by
 have ht : tabB m = true ↔ (1 ≤ m.kind ∧ m.kind ≤ 5) ∧ kindB m = true := by
  unfold tabB kindB
  by_cases h1 : m.kind = 1
  · simp [h1, betB]; omega
  by_cases h2 : m.kind = 2
  · simp [h2]
  by_cases h3 : m.kind = 3
  · simp [h3]
  by_cases h4 : m.kind = 4
  · simp [h4]; omega
  by_cases h5 : m.kind = 5
  · simp [h5]
  · simp [h1, h2, h3, h4, h5]
    intros
    omega
 have hb : betB m.rnd 0 15 = true ↔ 0 ≤ m.rnd ∧ m.rnd < 16 := by simp [betB]; omega
 rw [Bool.eq_iff_iff, Bool.and_eq_true, Bool.and_eq_true, blank_iff, less_bare, mayB, Bool.and_eq_true, Bool.and_eq_true, sameB_iff, decide_eq_true_eq, hb, ht]
 constructor
 · rintro ⟨a, ⟨b, c⟩, d⟩
   exact ⟨⟨b.1, b.2, a.1, a.2⟩, d, c⟩
 · rintro ⟨⟨a, b, c, d⟩, e, f⟩
   exact ⟨⟨c, d⟩, ⟨⟨a, b⟩, f⟩, e⟩
theorem atL_eq {w : World} {g : Nat} {t : TypeId} {a b : List Value} (h : AtL w g t a) (e : a = b) : AtL w g t b := e ▸ h
set_option maxRecDepth 100000 in
set_option maxHeartbeats 16000000 in
theorem without_any (m : Ms) (x : Option Addr) (N cap : Nat) (hm : m.ok) (w : World) :
 Calls Try.prog 37 #[.agg (msC m (.slice x N cap)).toArray] w fun e w' => e = .returned (.agg (msC (lessM m) (lessV m (.slice x N cap))).toArray) ∧ Below w.heap.size w w' := by
 have hA : AtL ((w.alloc (.cells (msC m (.slice x N cap)).toArray 42)).alloc (.cells (msC z0 nilS).toArray 42)) w.heap.size 42 (msC m (.slice x N cap)) := (AtL.new w _ _).alloc _
 have hR : AtL ((w.alloc (.cells (msC m (.slice x N cap)).toArray 42)).alloc (.cells (msC z0 nilS).toArray 42)) (w.heap.size + 1) 42 (msC z0 nilS) := by have := AtL.new (w.alloc (.cells (msC m (.slice x N cap)).toArray 42)) 42 (msC z0 nilS); rwa [World.size_alloc] at this
 have hB : Below w.heap.size w ((w.alloc (.cells (msC m (.slice x N cap)).toArray 42)).alloc (.cells (msC z0 nilS).toArray 42)) := ((Below.refl _ _).alloc (Nat.le_refl _) _).alloc (by simp) _
 have hd := hm.dig
 have hlo := less_ok hm
 obtain ⟨L, hL⟩ : ∃ L, lessM m = L := ⟨_, rfl⟩
 obtain ⟨LV, hLV⟩ : ∃ L, lessV m (.slice x N cap) = L := ⟨_, rfl⟩
 have h1L : LV.oneCell' = true := by
  rw [← hLV, lessV]
  split
  · rfl
  · rfl
 rw [hL, hLV]
 rw [hL] at hlo
 go_enter Try.func37, Try.ntmps37
 replace hL := Lib.hid hL
 replace hLV := Lib.hid hLV
 go_upto_region 1 with fail
 rw [z0_lit]
 obtain ⟨n, hn⟩ : ∃ n, w.heap.size = n := ⟨_, rfl⟩
 obtain ⟨n1, hn1⟩ : ∃ n1, n + 1 = n1 := ⟨_, rfl⟩
 generalize (w.alloc (.cells (msC m (.slice x N cap)).toArray 42)).alloc (.cells (msC z0 nilS).toArray 42) = W at hA hR hB ⊢
 rw [hn] at hA hR
 rw [hn1] at hR
 try simp only [hn, hn1]
 have hnn : n ≠ n1 := by omega
 have hle : w.heap.size ≤ n := by omega
 have hle1 : w.heap.size ≤ n1 := by omega
 replace hn := Lib.hid hn
 replace hn1 := Lib.hid hn1
 have c0 := hA.get ms_kind
 replace hA := Lib.hid hA
 replace hB := Lib.hid hB
 replace hR := Lib.hid hR
 obtain ⟨k, hk⟩ : ∃ k, m.kind = k := ⟨_, rfl⟩
 rw [hk] at c0
 by_cases y1 : k = 1
 · subst y1
   have hWA := hA.out
   have hWR := hR.out
   have hWB := hB.out
   have cc0 := hWA.cell 3
   have ff0 := hWA.free 3
   obtain ⟨u0, hu0⟩ : ∃ u, (msC m (.slice x N cap))[3]? = some u := ⟨_, List.getElem?_eq_getElem (by rw [msC_len (by exact hd)]; decide)⟩
   rw [hu0] at cc0
   replace hWA := hWA.put 3 (.int .i64 0)
   replace hWR := hWR.far (Ne.symm hnn) 3 (.int .i64 0)
   replace hWB := hWB.setCell (p := ⟨n, 3, none⟩) hle (.int .i64 0)
   replace hWA := atL_eq hWA (show (msC m (.slice x N cap)).set 3 (.int .i64 0) = msC ({ m with req := 0 } : Ms) (.slice x N cap) from rfl)
   have cc1 := hWA.cell 4
   have ff1 := hWA.free 4
   obtain ⟨u1, hu1⟩ : ∃ u, (msC ({ m with req := 0 } : Ms) (.slice x N cap))[4]? = some u := ⟨_, List.getElem?_eq_getElem (by rw [msC_len (by exact hd)]; decide)⟩
   rw [hu1] at cc1
   replace hWA := hWA.put 4 (.int .i64 0)
   replace hWR := hWR.far (Ne.symm hnn) 4 (.int .i64 0)
   replace hWB := hWB.setCell (p := ⟨n, 4, none⟩) hle (.int .i64 0)
   replace hWA := atL_eq hWA (show (msC ({ m with req := 0 } : Ms) (.slice x N cap)).set 4 (.int .i64 0) = msC ({ ({ m with req := 0 } : Ms) with rsv := 0 } : Ms) (.slice x N cap) from rfl)
   have hP2 := Lib.hid hWA
   have hz2 := Lib.hid (rq_size zRq)
   have ho2 := Lib.hid (show 5 + (rqC zRq).length ≤ (msC ({ ({ m with req := 0 } : Ms) with rsv := 0 } : Ms) (.slice x N cap)).length by rw [msC_len (by exact hd)]; decide)
   have h12 := Lib.hid (one_rq zRq)
   replace hWA := hWA.row (putL (msC ({ ({ m with req := 0 } : Ms) with rsv := 0 } : Ms) (.slice x N cap)) 5 (rqC zRq))
   replace hWR := hWR.rowFar (Ne.symm hnn) (putL (msC ({ ({ m with req := 0 } : Ms) with rsv := 0 } : Ms) (.slice x N cap)) 5 (rqC zRq)).toArray
   replace hWB := below_row hWB hle (putL (msC ({ ({ m with req := 0 } : Ms) with rsv := 0 } : Ms) (.slice x N cap)) 5 (rqC zRq)).toArray
   have hpe := set_rq ({ ({ m with req := 0 } : Ms) with rsv := 0 } : Ms) (.slice x N cap) zRq
   replace hWA := atL_eq hWA hpe
   clear hpe
   have hLe := Lib.hid (show L = ({ ({ ({ m with req := 0 } : Ms) with rsv := 0 } : Ms) with rq := zRq } : Ms) by rw [← hL.out, lessM, if_pos hk])
   have hVe := Lib.hid (show LV = (.slice x N cap) by rw [← hLV.out, lessV, if_neg (by omega)])
   replace hWA := atL_eq hWA (show msC ({ ({ ({ m with req := 0 } : Ms) with rsv := 0 } : Ms) with rq := zRq } : Ms) (.slice x N cap) = msC L LV by rw [hLe.out, hVe.out])
   replace hWA := Lib.hid hWA
   replace hWR := Lib.hid hWR
   replace hWB := Lib.hid hWB
   clear hA hB hR hu0 hu1
   go_upto_region 12 with (first | (refine wpList_store_part rfl 35 _ _ rfl n 5 (rqC zRq) rfl rfl 42 (msC ({ ({ m with req := 0 } : Ms) with rsv := 0 } : Ms) (.slice x N cap)) hP2.out hz2.out ho2.out h12.out ?_))
   try simp only [Act.put]
   obtain ⟨W5, hA5, hR5, hB5, hW5⟩ : ∃ W5, Hid (AtL W5 n 42 (msC L LV)) ∧ Hid (AtL W5 n1 42 (msC z0 nilS)) ∧ Hid (Below w.heap.size w W5) ∧ Hid (W5 = (((W.setCell ⟨n, 3, none⟩ (.int .i64 0)).setCell ⟨n, 4, none⟩ (.int .i64 0)).setRow n (putL (msC ({ ({ m with req := 0 } : Ms) with rsv := 0 } : Ms) (.slice x N cap)) 5 (rqC zRq)).toArray)) := ⟨_, hWA, hWR, hWB, Lib.hid rfl⟩
   rw [← hW5.out]
   clear hWA hWR hWB hW5 cc0 ff0 cc1 ff1 hP2
   have hi53 := Lib.hid (show (Try.prog.info? 42).map (·.size) = some (msC L LV).length by rw [msC_len hlo.dig]; kernel_rfl)
   have hld := Lib.hid (fun j v (hv : (msC L LV)[j]? = some v) => (show W5.cell? ⟨n, 0 + j, none⟩ = some v by rw [Nat.zero_add]; exact hA5.out.get hv))
   have hl2 := Lib.hid (show 0 + (msC L LV).length ≤ (msC z0 nilS).length by rw [msC_len hlo.dig]; decide)
   have h1c := Lib.hid (ms_one (m := L) h1L)
   have hpl := put_all (old := msC z0 nilS) (cs := msC L LV) (by rw [msC_len hlo.dig]; rfl)
   have hR6 := Lib.hid (hR5.out.row (msC L LV))
   have hB6 := Lib.hid (below_row hB5.out hle1 (msC L LV).toArray)
   rw [← hpl] at hR6 hB6
   have hpl2 := Lib.hid hpl
   clear hpl hA5 hB5
   go_wp2_with (first | (refine wpList_load_part rfl 42 _ rfl n 0 rfl (msC L LV) hld.out _ Try.underlying42 rfl hi53.out ?_) | (refine wpList_store_part rfl 42 _ _ rfl n1 0 (msC L LV) rfl rfl 42 (msC z0 nilS) hR5.out hi53.out hl2.out h1c.out ?_))
   have hR7 := hR6.out
   rw [hpl2.out] at hR7
   have hB7 := hB6.out
   rw [hpl2.out] at hB7 ⊢
   refine bodyPost_ret (ret_array rfl rfl hR7 _ Try.underlying42 rfl hi53.out) rfl ?_
   exact ⟨rfl, hB7⟩
 by_cases y2 : k = 2
 · subst y2
   have hWA := hA.out
   have hWR := hR.out
   have hWB := hB.out
   have cc0 := hWA.cell 2
   have ff0 := hWA.free 2
   obtain ⟨u0, hu0⟩ : ∃ u, (msC m (.slice x N cap))[2]? = some u := ⟨_, List.getElem?_eq_getElem (by rw [msC_len (by exact hd)]; decide)⟩
   rw [hu0] at cc0
   replace hWA := hWA.put 2 (.int .i64 0)
   replace hWR := hWR.far (Ne.symm hnn) 2 (.int .i64 0)
   replace hWB := hWB.setCell (p := ⟨n, 2, none⟩) hle (.int .i64 0)
   replace hWA := atL_eq hWA (show (msC m (.slice x N cap)).set 2 (.int .i64 0) = msC ({ m with car := 0 } : Ms) (.slice x N cap) from rfl)
   have hP1 := Lib.hid hWA
   have hz1 := Lib.hid (dig_size (d := zD) rfl)
   have ho1 := Lib.hid (show 15 + (zD.map u8V).length ≤ (msC ({ m with car := 0 } : Ms) (.slice x N cap)).length by rw [msC_len (by exact hd)]; decide)
   have h11 := Lib.hid (one_dig zD)
   replace hWA := hWA.row (putL (msC ({ m with car := 0 } : Ms) (.slice x N cap)) 15 (zD.map u8V))
   replace hWR := hWR.rowFar (Ne.symm hnn) (putL (msC ({ m with car := 0 } : Ms) (.slice x N cap)) 15 (zD.map u8V)).toArray
   replace hWB := below_row hWB hle (putL (msC ({ m with car := 0 } : Ms) (.slice x N cap)) 15 (zD.map u8V)).toArray
   have hpe := set_dig ({ m with car := 0 } : Ms) (.slice x N cap) zD (by exact hd) rfl
   replace hWA := atL_eq hWA hpe
   clear hpe
   have hLe := Lib.hid (show L = ({ ({ m with car := 0 } : Ms) with dig := zD } : Ms) by rw [← hL.out, lessM, if_neg (by omega), if_pos hk])
   have hVe := Lib.hid (show LV = (.slice x N cap) by rw [← hLV.out, lessV, if_neg (by omega)])
   replace hWA := atL_eq hWA (show msC ({ ({ m with car := 0 } : Ms) with dig := zD } : Ms) (.slice x N cap) = msC L LV by rw [hLe.out, hVe.out])
   replace hWA := Lib.hid hWA
   replace hWR := Lib.hid hWR
   replace hWB := Lib.hid hWB
   clear hA hB hR hu0
   go_upto_region 12 with (first | (refine wpList_store_part rfl 37 _ _ rfl n 15 (zD.map u8V) rfl rfl 42 (msC ({ m with car := 0 } : Ms) (.slice x N cap)) hP1.out hz1.out ho1.out h11.out ?_))
   try simp only [Act.put]
   obtain ⟨W5, hA5, hR5, hB5, hW5⟩ : ∃ W5, Hid (AtL W5 n 42 (msC L LV)) ∧ Hid (AtL W5 n1 42 (msC z0 nilS)) ∧ Hid (Below w.heap.size w W5) ∧ Hid (W5 = ((W.setCell ⟨n, 2, none⟩ (.int .i64 0)).setRow n (putL (msC ({ m with car := 0 } : Ms) (.slice x N cap)) 15 (zD.map u8V)).toArray)) := ⟨_, hWA, hWR, hWB, Lib.hid rfl⟩
   rw [← hW5.out]
   clear hWA hWR hWB hW5 cc0 ff0 hP1
   have hi53 := Lib.hid (show (Try.prog.info? 42).map (·.size) = some (msC L LV).length by rw [msC_len hlo.dig]; kernel_rfl)
   have hld := Lib.hid (fun j v (hv : (msC L LV)[j]? = some v) => (show W5.cell? ⟨n, 0 + j, none⟩ = some v by rw [Nat.zero_add]; exact hA5.out.get hv))
   have hl2 := Lib.hid (show 0 + (msC L LV).length ≤ (msC z0 nilS).length by rw [msC_len hlo.dig]; decide)
   have h1c := Lib.hid (ms_one (m := L) h1L)
   have hpl := put_all (old := msC z0 nilS) (cs := msC L LV) (by rw [msC_len hlo.dig]; rfl)
   have hR6 := Lib.hid (hR5.out.row (msC L LV))
   have hB6 := Lib.hid (below_row hB5.out hle1 (msC L LV).toArray)
   rw [← hpl] at hR6 hB6
   have hpl2 := Lib.hid hpl
   clear hpl hA5 hB5
   go_wp2_with (first | (refine wpList_load_part rfl 42 _ rfl n 0 rfl (msC L LV) hld.out _ Try.underlying42 rfl hi53.out ?_) | (refine wpList_store_part rfl 42 _ _ rfl n1 0 (msC L LV) rfl rfl 42 (msC z0 nilS) hR5.out hi53.out hl2.out h1c.out ?_))
   have hR7 := hR6.out
   rw [hpl2.out] at hR7
   have hB7 := hB6.out
   rw [hpl2.out] at hB7 ⊢
   refine bodyPost_ret (ret_array rfl rfl hR7 _ Try.underlying42 rfl hi53.out) rfl ?_
   exact ⟨rfl, hB7⟩
 by_cases y3 : k = 3
 · subst y3
   have hWA := hA.out
   have hWR := hR.out
   have hWB := hB.out
   have cc0 := hWA.cell 47
   have ff0 := hWA.free 47
   obtain ⟨u0, hu0⟩ : ∃ u, (msC m (.slice x N cap))[47]? = some u := ⟨_, List.getElem?_eq_getElem (by rw [msC_len (by exact hd)]; decide)⟩
   rw [hu0] at cc0
   replace hWA := hWA.put 47 (.slice none 0 0)
   replace hWR := hWR.far (Ne.symm hnn) 47 (.slice none 0 0)
   replace hWB := hWB.setCell (p := ⟨n, 47, none⟩) hle (.slice none 0 0)
   replace hWA := atL_eq hWA (show ((msC m (.slice x N cap)).set 47 (.slice none 0 0)) = msC ({ m with marks := [] } : Ms) nilS from set_marks m _ nilS hd)
   have hLe := Lib.hid (show L = ({ m with marks := [] } : Ms) by rw [← hL.out, lessM, if_neg (by omega), if_neg (by omega), if_pos hk])
   have hVe := Lib.hid (show LV = nilS by rw [← hLV.out, lessV, if_pos hk])
   replace hWA := atL_eq hWA (show msC ({ m with marks := [] } : Ms) nilS = msC L LV by rw [hLe.out, hVe.out])
   replace hWA := Lib.hid hWA
   replace hWR := Lib.hid hWR
   replace hWB := Lib.hid hWB
   clear hA hB hR hu0
   go_upto_region 12 with fail
   try simp only [Act.put]
   obtain ⟨W5, hA5, hR5, hB5, hW5⟩ : ∃ W5, Hid (AtL W5 n 42 (msC L LV)) ∧ Hid (AtL W5 n1 42 (msC z0 nilS)) ∧ Hid (Below w.heap.size w W5) ∧ Hid (W5 = (W.setCell ⟨n, 47, none⟩ (.slice none 0 0))) := ⟨_, hWA, hWR, hWB, Lib.hid rfl⟩
   rw [← hW5.out]
   clear hWA hWR hWB hW5 cc0 ff0 
   have hi53 := Lib.hid (show (Try.prog.info? 42).map (·.size) = some (msC L LV).length by rw [msC_len hlo.dig]; kernel_rfl)
   have hld := Lib.hid (fun j v (hv : (msC L LV)[j]? = some v) => (show W5.cell? ⟨n, 0 + j, none⟩ = some v by rw [Nat.zero_add]; exact hA5.out.get hv))
   have hl2 := Lib.hid (show 0 + (msC L LV).length ≤ (msC z0 nilS).length by rw [msC_len hlo.dig]; decide)
   have h1c := Lib.hid (ms_one (m := L) h1L)
   have hpl := put_all (old := msC z0 nilS) (cs := msC L LV) (by rw [msC_len hlo.dig]; rfl)
   have hR6 := Lib.hid (hR5.out.row (msC L LV))
   have hB6 := Lib.hid (below_row hB5.out hle1 (msC L LV).toArray)
   rw [← hpl] at hR6 hB6
   have hpl2 := Lib.hid hpl
   clear hpl hA5 hB5
   go_wp2_with (first | (refine wpList_load_part rfl 42 _ rfl n 0 rfl (msC L LV) hld.out _ Try.underlying42 rfl hi53.out ?_) | (refine wpList_store_part rfl 42 _ _ rfl n1 0 (msC L LV) rfl rfl 42 (msC z0 nilS) hR5.out hi53.out hl2.out h1c.out ?_))
   have hR7 := hR6.out
   rw [hpl2.out] at hR7
   have hB7 := hB6.out
   rw [hpl2.out] at hB7 ⊢
   refine bodyPost_ret (ret_array rfl rfl hR7 _ Try.underlying42 rfl hi53.out) rfl ?_
   exact ⟨rfl, hB7⟩
 by_cases y4 : k = 4
 · subst y4
   have hWA := hA.out
   have hWR := hR.out
   have hWB := hB.out
   have cc0 := hWA.cell 2
   have ff0 := hWA.free 2
   obtain ⟨u0, hu0⟩ : ∃ u, (msC m (.slice x N cap))[2]? = some u := ⟨_, List.getElem?_eq_getElem (by rw [msC_len (by exact hd)]; decide)⟩
   rw [hu0] at cc0
   replace hWA := hWA.put 2 (.int .i64 0)
   replace hWR := hWR.far (Ne.symm hnn) 2 (.int .i64 0)
   replace hWB := hWB.setCell (p := ⟨n, 2, none⟩) hle (.int .i64 0)
   replace hWA := atL_eq hWA (show (msC m (.slice x N cap)).set 2 (.int .i64 0) = msC ({ m with car := 0 } : Ms) (.slice x N cap) from rfl)
   have cc1 := hWA.cell 48
   have ff1 := hWA.free 48
   obtain ⟨u1, hu1⟩ : ∃ u, (msC ({ m with car := 0 } : Ms) (.slice x N cap))[48]? = some u := ⟨_, List.getElem?_eq_getElem (by rw [msC_len (by exact hd)]; decide)⟩
   rw [hu1] at cc1
   replace hWA := hWA.put 48 (.int .u64 0)
   replace hWR := hWR.far (Ne.symm hnn) 48 (.int .u64 0)
   replace hWB := hWB.setCell (p := ⟨n, 48, none⟩) hle (.int .u64 0)
   replace hWA := atL_eq hWA (show (msC ({ m with car := 0 } : Ms) (.slice x N cap)).set 48 (.int .u64 0) = msC ({ ({ m with car := 0 } : Ms) with bid := 0 } : Ms) (.slice x N cap) from set_bid _ _ 0 (by exact hd))
   have cc2 := hWA.cell 49
   have ff2 := hWA.free 49
   obtain ⟨u2, hu2⟩ : ∃ u, (msC ({ ({ m with car := 0 } : Ms) with bid := 0 } : Ms) (.slice x N cap))[49]? = some u := ⟨_, List.getElem?_eq_getElem (by rw [msC_len (by exact hd)]; decide)⟩
   rw [hu2] at cc2
   replace hWA := hWA.put 49 (.int .u64 0)
   replace hWR := hWR.far (Ne.symm hnn) 49 (.int .u64 0)
   replace hWB := hWB.setCell (p := ⟨n, 49, none⟩) hle (.int .u64 0)
   replace hWA := atL_eq hWA (show (msC ({ ({ m with car := 0 } : Ms) with bid := 0 } : Ms) (.slice x N cap)).set 49 (.int .u64 0) = msC ({ ({ ({ m with car := 0 } : Ms) with bid := 0 } : Ms) with nonce := 0 } : Ms) (.slice x N cap) from set_nonce _ _ 0 (by exact hd))
   have hLe := Lib.hid (show L = ({ ({ ({ m with car := 0 } : Ms) with bid := 0 } : Ms) with nonce := 0 } : Ms) by rw [← hL.out, lessM, if_neg (by omega), if_neg (by omega), if_neg (by omega), if_pos hk])
   have hVe := Lib.hid (show LV = (.slice x N cap) by rw [← hLV.out, lessV, if_neg (by omega)])
   replace hWA := atL_eq hWA (show msC ({ ({ ({ m with car := 0 } : Ms) with bid := 0 } : Ms) with nonce := 0 } : Ms) (.slice x N cap) = msC L LV by rw [hLe.out, hVe.out])
   replace hWA := Lib.hid hWA
   replace hWR := Lib.hid hWR
   replace hWB := Lib.hid hWB
   clear hA hB hR hu0 hu1 hu2
   go_upto_region 12 with fail
   try simp only [Act.put]
   obtain ⟨W5, hA5, hR5, hB5, hW5⟩ : ∃ W5, Hid (AtL W5 n 42 (msC L LV)) ∧ Hid (AtL W5 n1 42 (msC z0 nilS)) ∧ Hid (Below w.heap.size w W5) ∧ Hid (W5 = (((W.setCell ⟨n, 2, none⟩ (.int .i64 0)).setCell ⟨n, 48, none⟩ (.int .u64 0)).setCell ⟨n, 49, none⟩ (.int .u64 0))) := ⟨_, hWA, hWR, hWB, Lib.hid rfl⟩
   rw [← hW5.out]
   clear hWA hWR hWB hW5 cc0 ff0 cc1 ff1 cc2 ff2 
   have hi53 := Lib.hid (show (Try.prog.info? 42).map (·.size) = some (msC L LV).length by rw [msC_len hlo.dig]; kernel_rfl)
   have hld := Lib.hid (fun j v (hv : (msC L LV)[j]? = some v) => (show W5.cell? ⟨n, 0 + j, none⟩ = some v by rw [Nat.zero_add]; exact hA5.out.get hv))
   have hl2 := Lib.hid (show 0 + (msC L LV).length ≤ (msC z0 nilS).length by rw [msC_len hlo.dig]; decide)
   have h1c := Lib.hid (ms_one (m := L) h1L)
   have hpl := put_all (old := msC z0 nilS) (cs := msC L LV) (by rw [msC_len hlo.dig]; rfl)
   have hR6 := Lib.hid (hR5.out.row (msC L LV))
   have hB6 := Lib.hid (below_row hB5.out hle1 (msC L LV).toArray)
   rw [← hpl] at hR6 hB6
   have hpl2 := Lib.hid hpl
   clear hpl hA5 hB5
   go_wp2_with (first | (refine wpList_load_part rfl 42 _ rfl n 0 rfl (msC L LV) hld.out _ Try.underlying42 rfl hi53.out ?_) | (refine wpList_store_part rfl 42 _ _ rfl n1 0 (msC L LV) rfl rfl 42 (msC z0 nilS) hR5.out hi53.out hl2.out h1c.out ?_))
   have hR7 := hR6.out
   rw [hpl2.out] at hR7
   have hB7 := hB6.out
   rw [hpl2.out] at hB7 ⊢
   refine bodyPost_ret (ret_array rfl rfl hR7 _ Try.underlying42 rfl hi53.out) rfl ?_
   exact ⟨rfl, hB7⟩
 by_cases y5 : k = 5
 · subst y5
   have hWA := hA.out
   have hWR := hR.out
   have hWB := hB.out
   have hP0 := Lib.hid hWA
   have hz0 := Lib.hid (oc_size zOc)
   have ho0 := Lib.hid (show 50 + (ocC zOc).length ≤ (msC m (.slice x N cap)).length by rw [msC_len (by exact hd)]; decide)
   have h10 := Lib.hid (one_oc zOc)
   replace hWA := hWA.row (putL (msC m (.slice x N cap)) 50 (ocC zOc))
   replace hWR := hWR.rowFar (Ne.symm hnn) (putL (msC m (.slice x N cap)) 50 (ocC zOc)).toArray
   replace hWB := below_row hWB hle (putL (msC m (.slice x N cap)) 50 (ocC zOc)).toArray
   have hpe := set_oc m (.slice x N cap) zOc hd
   replace hWA := atL_eq hWA hpe
   clear hpe
   have hLe := Lib.hid (show L = ({ m with oc := zOc } : Ms) by rw [← hL.out, lessM, if_neg (by omega), if_neg (by omega), if_neg (by omega), if_neg (by omega), if_pos hk])
   have hVe := Lib.hid (show LV = (.slice x N cap) by rw [← hLV.out, lessV, if_neg (by omega)])
   replace hWA := atL_eq hWA (show msC ({ m with oc := zOc } : Ms) (.slice x N cap) = msC L LV by rw [hLe.out, hVe.out])
   replace hWA := Lib.hid hWA
   replace hWR := Lib.hid hWR
   replace hWB := Lib.hid hWB
   clear hA hB hR 
   go_upto_region 12 with (first | (refine wpList_store_part rfl 40 _ _ rfl n 50 (ocC zOc) rfl rfl 42 (msC m (.slice x N cap)) hP0.out hz0.out ho0.out h10.out ?_))
   try simp only [Act.put]
   obtain ⟨W5, hA5, hR5, hB5, hW5⟩ : ∃ W5, Hid (AtL W5 n 42 (msC L LV)) ∧ Hid (AtL W5 n1 42 (msC z0 nilS)) ∧ Hid (Below w.heap.size w W5) ∧ Hid (W5 = (W.setRow n (putL (msC m (.slice x N cap)) 50 (ocC zOc)).toArray)) := ⟨_, hWA, hWR, hWB, Lib.hid rfl⟩
   rw [← hW5.out]
   clear hWA hWR hWB hW5  hP0
   have hi53 := Lib.hid (show (Try.prog.info? 42).map (·.size) = some (msC L LV).length by rw [msC_len hlo.dig]; kernel_rfl)
   have hld := Lib.hid (fun j v (hv : (msC L LV)[j]? = some v) => (show W5.cell? ⟨n, 0 + j, none⟩ = some v by rw [Nat.zero_add]; exact hA5.out.get hv))
   have hl2 := Lib.hid (show 0 + (msC L LV).length ≤ (msC z0 nilS).length by rw [msC_len hlo.dig]; decide)
   have h1c := Lib.hid (ms_one (m := L) h1L)
   have hpl := put_all (old := msC z0 nilS) (cs := msC L LV) (by rw [msC_len hlo.dig]; rfl)
   have hR6 := Lib.hid (hR5.out.row (msC L LV))
   have hB6 := Lib.hid (below_row hB5.out hle1 (msC L LV).toArray)
   rw [← hpl] at hR6 hB6
   have hpl2 := Lib.hid hpl
   clear hpl hA5 hB5
   go_wp2_with (first | (refine wpList_load_part rfl 42 _ rfl n 0 rfl (msC L LV) hld.out _ Try.underlying42 rfl hi53.out ?_) | (refine wpList_store_part rfl 42 _ _ rfl n1 0 (msC L LV) rfl rfl 42 (msC z0 nilS) hR5.out hi53.out hl2.out h1c.out ?_))
   have hR7 := hR6.out
   rw [hpl2.out] at hR7
   have hB7 := hB6.out
   rw [hpl2.out] at hB7 ⊢
   refine bodyPost_ret (ret_array rfl rfl hR7 _ Try.underlying42 rfl hi53.out) rfl ?_
   exact ⟨rfl, hB7⟩
 have hLe := Lib.hid (show L = m by rw [← hL.out, lessM, if_neg (by omega), if_neg (by omega), if_neg (by omega), if_neg (by omega), if_neg (by omega)])
 have hVe := Lib.hid (show LV = (.slice x N cap) by rw [← hLV.out, lessV, if_neg (by omega)])
 replace hA := Lib.hid (atL_eq hA.out (show msC m (.slice x N cap) = msC L LV by rw [hLe.out, hVe.out]))
 go_upto_region 12 with fail
 obtain ⟨W5, hA5, hR5, hB5, hW5⟩ : ∃ W5, Hid (AtL W5 n 42 (msC L LV)) ∧ Hid (AtL W5 n1 42 (msC z0 nilS)) ∧ Hid (Below w.heap.size w W5) ∧ Hid (W5 = W) := ⟨_, hA, hR, hB, Lib.hid rfl⟩
 rw [← hW5.out]
 clear hA hR hB hW5 c0
 have hi53 := Lib.hid (show (Try.prog.info? 42).map (·.size) = some (msC L LV).length by rw [msC_len hlo.dig]; kernel_rfl)
 have hld := Lib.hid (fun j v (hv : (msC L LV)[j]? = some v) => (show W5.cell? ⟨n, 0 + j, none⟩ = some v by rw [Nat.zero_add]; exact hA5.out.get hv))
 have hl2 := Lib.hid (show 0 + (msC L LV).length ≤ (msC z0 nilS).length by rw [msC_len hlo.dig]; decide)
 have h1c := Lib.hid (ms_one (m := L) h1L)
 have hpl := put_all (old := msC z0 nilS) (cs := msC L LV) (by rw [msC_len hlo.dig]; rfl)
 have hR6 := Lib.hid (hR5.out.row (msC L LV))
 have hB6 := Lib.hid (below_row hB5.out hle1 (msC L LV).toArray)
 rw [← hpl] at hR6 hB6
 have hpl2 := Lib.hid hpl
 clear hpl hA5 hB5
 go_wp2_with (first | (refine wpList_load_part rfl 42 _ rfl n 0 rfl (msC L LV) hld.out _ Try.underlying42 rfl hi53.out ?_) | (refine wpList_store_part rfl 42 _ _ rfl n1 0 (msC L LV) rfl rfl 42 (msC z0 nilS) hR5.out hi53.out hl2.out h1c.out ?_))
 have hR7 := hR6.out
 rw [hpl2.out] at hR7
 have hB7 := hB6.out
 rw [hpl2.out] at hB7 ⊢
 refine bodyPost_ret (ret_array rfl rfl hR7 _ Try.underlying42 rfl hi53.out) rfl ?_
 exact ⟨rfl, hB7⟩
theorem eqRqZ (a : Rq) (w : World) : Sem.run Try.prog (Op.equalIn 10000 35 (.agg (rqC a).toArray) (.agg #[.int .i64 0, .int .i64 0, .int .i64 0, .int .i64 0, .int .i64 0, .int .i64 0, .int .i64 0, .int .i64 0, .int .i64 0, .int .i64 0])) w = .ok (rqB a zRq) w := eqRq a zRq w
theorem eqDigZ (d : Bs) (h : d.length = 32) (w : World) : Sem.run Try.prog (Op.equalIn 10000 37 (.agg (d.map u8V).toArray) (.agg #[.int .u8 0, .int .u8 0, .int .u8 0, .int .u8 0, .int .u8 0, .int .u8 0, .int .u8 0, .int .u8 0, .int .u8 0, .int .u8 0, .int .u8 0, .int .u8 0, .int .u8 0, .int .u8 0, .int .u8 0, .int .u8 0, .int .u8 0, .int .u8 0, .int .u8 0, .int .u8 0, .int .u8 0, .int .u8 0, .int .u8 0, .int .u8 0, .int .u8 0, .int .u8 0, .int .u8 0, .int .u8 0, .int .u8 0, .int .u8 0, .int .u8 0, .int .u8 0])) w = .ok (d == zD) w := eqDig d zD h rfl w
theorem eqOcZ (a : Oc) (w : World) : Sem.run Try.prog (Op.equalIn 10000 40 (.agg (ocC a).toArray) (.agg #[.int .i64 0, .int .i64 0, .int .u64 0])) w = .ok (ocE a zOc) w := eqOc a zOc w
set_option maxRecDepth 100000 in
set_option maxHeartbeats 16000000 in
theorem isBlank_any (m : Ms) (x : Option Addr) (N cap : Nat) (hm : m.ok) (hN : m.marks.length = N) (w : World) :
 Calls Try.prog 36 #[.agg (msC m (.slice x N cap)).toArray] w fun e w' => e = .returned (.bool (blankB m)) ∧ Below w.heap.size w w' := by
 have hA : AtL (w.alloc (.cells (msC m (.slice x N cap)).toArray 42)) w.heap.size 42 (msC m (.slice x N cap)) := AtL.new w _ _
 have hB : Below w.heap.size w (w.alloc (.cells (msC m (.slice x N cap)).toArray 42)) := (Below.refl _ _).alloc (Nat.le_refl _) _
 have eR := Lib.hid (eqRqZ m.rq)
 have eD := Lib.hid (eqDigZ m.dig hm.dig)
 have eO := Lib.hid (eqOcZ m.oc)
 go_enter Try.func36, Try.ntmps36
 go_upto_region 1 with fail
 obtain ⟨n, hn⟩ : ∃ n, w.heap.size = n := ⟨_, rfl⟩
 generalize w.alloc (.cells (msC m (.slice x N cap)).toArray 42) = W at hA hB ⊢
 rw [hn] at hA
 try simp only [hn]
 replace hn := Lib.hid hn
 have m_car := hA.get ms_car
 have m_req := hA.get ms_req
 have m_rsv := hA.get ms_rsv
 have m_marks := hA.get (ms_marks hm.dig)
 have m_bid := hA.get (ms_bid hm.dig)
 have m_nonce := hA.get (ms_nonce hm.dig)
 replace hA := Lib.hid hA
 replace hB := Lib.hid hB
 have sa := Lib.hid (dig_size hm.dig)
 replace hm := Lib.hid hm
 replace hN := Lib.hid hN
 refine wp_region_list ?_
 (refine BigFrame.wpList_want rfl ?_; intro K hK; replace hK := Lib.hid hK; go_wp2_with fail; refine hK.out _ _ ?_; clear hK K) -- 0
 (refine BigFrame.wpList_want rfl ?_; intro K hK; replace hK := Lib.hid hK; go_wp2_with fail; refine hK.out _ _ ?_; clear hK K) -- 1
 by_cases h0 : m.car = 0
 case neg =>
  have hs := Lib.hid (show blankB m = false by simp [blankB, h0])
  go_wp2
  go_ret
  exact ⟨ret_bool (by rw [hs.out]), hB.out⟩
 (refine BigFrame.wpList_want rfl ?_; intro K hK; replace hK := Lib.hid hK; go_wp2_with fail; refine hK.out _ _ ?_; clear hK K) -- 2
 (refine BigFrame.wpList_want rfl ?_; intro K hK; replace hK := Lib.hid hK; go_wp2_with fail; refine hK.out _ _ ?_; clear hK K) -- 3
 (refine BigFrame.wpList_want rfl ?_; intro K hK; replace hK := Lib.hid hK; go_wp2_with fail; refine hK.out _ _ ?_; clear hK K) -- 4
 (refine BigFrame.wpList_want rfl ?_; intro K hK; replace hK := Lib.hid hK; go_wp2_with fail; refine hK.out _ _ ?_; clear hK K) -- 5
 by_cases h1 : m.req = 0
 case neg =>
  have hs := Lib.hid (show blankB m = false by simp [blankB, h0, h1])
  go_wp2
  go_ret
  exact ⟨ret_bool (by rw [hs.out]), hB.out⟩
 (refine BigFrame.wpList_want rfl ?_; intro K hK; replace hK := Lib.hid hK; go_wp2_with fail; refine hK.out _ _ ?_; clear hK K) -- 6
 (refine BigFrame.wpList_want rfl ?_; intro K hK; replace hK := Lib.hid hK; go_wp2_with fail; refine hK.out _ _ ?_; clear hK K) -- 7
 (refine BigFrame.wpList_want rfl ?_; intro K hK; replace hK := Lib.hid hK; go_wp2_with fail; refine hK.out _ _ ?_; clear hK K) -- 8
 (refine BigFrame.wpList_want rfl ?_; intro K hK; replace hK := Lib.hid hK; go_wp2_with fail; refine hK.out _ _ ?_; clear hK K) -- 9
 (refine BigFrame.wpList_want rfl ?_; intro K hK; replace hK := Lib.hid hK; go_wp2_with fail; refine hK.out _ _ ?_; clear hK K) -- 10
 by_cases h2 : m.rsv = 0
 case neg =>
  have hs := Lib.hid (show blankB m = false by simp [blankB, h0, h1, h2])
  go_wp2
  go_ret
  exact ⟨ret_bool (by rw [hs.out]), hB.out⟩
 (refine BigFrame.wpList_want rfl ?_; intro K hK; replace hK := Lib.hid hK; go_wp2_with fail; refine hK.out _ _ ?_; clear hK K) -- 11
 (refine BigFrame.wpList_want rfl ?_; intro K hK; replace hK := Lib.hid hK; go_wp2_with fail; refine hK.out _ _ ?_; clear hK K) -- 12
 (refine BigFrame.wpList_want rfl ?_; intro K hK; replace hK := Lib.hid hK; go_wp2_with fail; refine hK.out _ _ ?_; clear hK K) -- 13
 (refine BigFrame.wpList_want rfl ?_; intro K hK; replace hK := Lib.hid hK; go_wp2_with fail; refine hK.out _ _ ?_; clear hK K) -- 14
 refine wpList_load_part_w rfl 35 _ rfl n 5 rfl (rqC m.rq) (fun j v hv => hA.out.get (ms_rq hv)) _ Try.underlying35 rfl (rq_size _) ?_
 go_simp
 (refine BigFrame.wpList_want rfl ?_; intro K hK; replace hK := Lib.hid hK; go_wp2_with fail; refine hK.out _ _ ?_; clear hK K) -- 16
 by_cases h3 : rqB m.rq zRq = true
 case neg =>
  rw [Bool.not_eq_true] at h3
  have hs := Lib.hid (show blankB m = false by simp [blankB, h0, h1, h2, h3])
  replace eR := eR.out
  simp only [h3] at eR
  go_wp2
  go_ret
  exact ⟨ret_bool (by rw [hs.out]), hB.out⟩
 replace eR := eR.out
 simp only [h3] at eR
 (refine BigFrame.wpList_want rfl ?_; intro K hK; replace hK := Lib.hid hK; go_wp2_with fail; refine hK.out _ _ ?_; clear hK K) -- 17
 (refine BigFrame.wpList_want rfl ?_; intro K hK; replace hK := Lib.hid hK; go_wp2_with fail; refine hK.out _ _ ?_; clear hK K) -- 18
 (refine BigFrame.wpList_want rfl ?_; intro K hK; replace hK := Lib.hid hK; go_wp2_with fail; refine hK.out _ _ ?_; clear hK K) -- 19
 (refine BigFrame.wpList_want rfl ?_; intro K hK; replace hK := Lib.hid hK; go_wp2_with fail; refine hK.out _ _ ?_; clear hK K) -- 20
 refine wpList_load_part_w rfl 37 _ rfl n 15 rfl (m.dig.map u8V) (fun j v hv => hA.out.get (ms_dig hv)) _ Try.underlying37 rfl sa.out ?_
 go_simp
 (refine BigFrame.wpList_want rfl ?_; intro K hK; replace hK := Lib.hid hK; go_wp2_with fail; refine hK.out _ _ ?_; clear hK K) -- 22
 by_cases h4 : (m.dig == zD) = true
 case neg =>
  rw [Bool.not_eq_true] at h4
  have hs := Lib.hid (show blankB m = false by simp [blankB, h0, h1, h2, h3, h4])
  replace eD := eD.out
  simp only [h4] at eD
  go_wp2
  go_ret
  exact ⟨ret_bool (by rw [hs.out]), hB.out⟩
 replace eD := eD.out
 simp only [h4] at eD
 (refine BigFrame.wpList_want rfl ?_; intro K hK; replace hK := Lib.hid hK; go_wp2_with fail; refine hK.out _ _ ?_; clear hK K) -- 23
 (refine BigFrame.wpList_want rfl ?_; intro K hK; replace hK := Lib.hid hK; go_wp2_with fail; refine hK.out _ _ ?_; clear hK K) -- 24
 (refine BigFrame.wpList_want rfl ?_; intro K hK; replace hK := Lib.hid hK; go_wp2_with fail; refine hK.out _ _ ?_; clear hK K) -- 25
 (refine BigFrame.wpList_want rfl ?_; intro K hK; replace hK := Lib.hid hK; go_wp2_with fail; refine hK.out _ _ ?_; clear hK K) -- 26
 (refine BigFrame.wpList_want rfl ?_; intro K hK; replace hK := Lib.hid hK; go_wp2_with fail; refine hK.out _ _ ?_; clear hK K) -- 27
 (refine BigFrame.wpList_want rfl ?_; intro K hK; replace hK := Lib.hid hK; go_wp2_with fail; refine hK.out _ _ ?_; clear hK K) -- 28
 by_cases h5 : N = 0
 case neg =>
  have h5 : ¬ m.marks.length = 0 := by rw [hN.out]; exact h5
  have j5 : ¬ (N : Int) = 0 := by have := hN.out; omega
  have hs := Lib.hid (show blankB m = false by simp [blankB, h0, h1, h2, h3, h4, h5])
  go_wp2
  go_ret
  exact ⟨ret_bool (by rw [hs.out]), hB.out⟩
 have h5m : m.marks.length = 0 := by rw [hN.out]; exact h5
 have j5 : (N : Int) = 0 := by omega
 (refine BigFrame.wpList_want rfl ?_; intro K hK; replace hK := Lib.hid hK; go_wp2_with fail; refine hK.out _ _ ?_; clear hK K) -- 29
 (refine BigFrame.wpList_want rfl ?_; intro K hK; replace hK := Lib.hid hK; go_wp2_with fail; refine hK.out _ _ ?_; clear hK K) -- 30
 (refine BigFrame.wpList_want rfl ?_; intro K hK; replace hK := Lib.hid hK; go_wp2_with fail; refine hK.out _ _ ?_; clear hK K) -- 31
 (refine BigFrame.wpList_want rfl ?_; intro K hK; replace hK := Lib.hid hK; go_wp2_with fail; refine hK.out _ _ ?_; clear hK K) -- 32
 (refine BigFrame.wpList_want rfl ?_; intro K hK; replace hK := Lib.hid hK; go_wp2_with fail; refine hK.out _ _ ?_; clear hK K) -- 33
 by_cases h6 : m.bid = 0
 case neg =>
  have j6 : ¬ (m.bid : Int) = 0 := by omega
  have hs := Lib.hid (show blankB m = false by simp [blankB, h0, h1, h2, h3, h4, h5m, h6])
  go_wp2
  go_ret
  exact ⟨ret_bool (by rw [hs.out]), hB.out⟩
 have j6 : (m.bid : Int) = 0 := by omega
 (refine BigFrame.wpList_want rfl ?_; intro K hK; replace hK := Lib.hid hK; go_wp2_with fail; refine hK.out _ _ ?_; clear hK K) -- 34
 (refine BigFrame.wpList_want rfl ?_; intro K hK; replace hK := Lib.hid hK; go_wp2_with fail; refine hK.out _ _ ?_; clear hK K) -- 35
 (refine BigFrame.wpList_want rfl ?_; intro K hK; replace hK := Lib.hid hK; go_wp2_with fail; refine hK.out _ _ ?_; clear hK K) -- 36
 (refine BigFrame.wpList_want rfl ?_; intro K hK; replace hK := Lib.hid hK; go_wp2_with fail; refine hK.out _ _ ?_; clear hK K) -- 37
 (refine BigFrame.wpList_want rfl ?_; intro K hK; replace hK := Lib.hid hK; go_wp2_with fail; refine hK.out _ _ ?_; clear hK K) -- 38
 by_cases h7 : m.nonce = 0
 case neg =>
  have j7 : ¬ (m.nonce : Int) = 0 := by omega
  have hs := Lib.hid (show blankB m = false by simp [blankB, h0, h1, h2, h3, h4, h5m, h6, h7])
  go_wp2
  go_ret
  exact ⟨ret_bool (by rw [hs.out]), hB.out⟩
 have j7 : (m.nonce : Int) = 0 := by omega
 (refine BigFrame.wpList_want rfl ?_; intro K hK; replace hK := Lib.hid hK; go_wp2_with fail; refine hK.out _ _ ?_; clear hK K) -- 39
 (refine BigFrame.wpList_want rfl ?_; intro K hK; replace hK := Lib.hid hK; go_wp2_with fail; refine hK.out _ _ ?_; clear hK K) -- 40
 (refine BigFrame.wpList_want rfl ?_; intro K hK; replace hK := Lib.hid hK; go_wp2_with fail; refine hK.out _ _ ?_; clear hK K) -- 41
 (refine BigFrame.wpList_want rfl ?_; intro K hK; replace hK := Lib.hid hK; go_wp2_with fail; refine hK.out _ _ ?_; clear hK K) -- 42
 refine wpList_load_part_w rfl 40 _ rfl n 50 rfl (ocC m.oc) (fun j v hv => hA.out.get (ms_oc hm.out.dig hv)) _ Try.underlying40 rfl (oc_size _) ?_
 go_simp
 (refine BigFrame.wpList_want rfl ?_; intro K hK; replace hK := Lib.hid hK; go_wp2_with fail; refine hK.out _ _ ?_; clear hK K) -- 44
 by_cases h8 : ocE m.oc zOc = true
 case neg =>
  rw [Bool.not_eq_true] at h8
  have hs := Lib.hid (show blankB m = false by simp [blankB, h0, h1, h2, h3, h4, h5m, h6, h7, h8])
  replace eO := eO.out
  simp only [h8] at eO
  go_wp2
  go_ret
  exact ⟨ret_bool (by rw [hs.out]), hB.out⟩
 replace eO := eO.out
 simp only [h8] at eO
 (refine BigFrame.wpList_want rfl ?_; intro K hK; replace hK := Lib.hid hK; go_wp2_with fail; refine hK.out _ _ ?_; clear hK K) -- 45
 (refine BigFrame.wpList_want rfl ?_; intro K hK; replace hK := Lib.hid hK; go_wp2_with fail; refine hK.out _ _ ?_; clear hK K) -- 46
 (refine BigFrame.wpList_want rfl ?_; intro K hK; replace hK := Lib.hid hK; go_wp2_with fail; refine hK.out _ _ ?_; clear hK K) -- 47
 have hs := Lib.hid (show blankB m = true by simp [blankB, h0, h1, h2, h3, h4, h5m, h6, h7, h8])
 go_wp2
 go_ret
 exact ⟨ret_bool (by rw [hs.out]), hB.out⟩
end Go.Proofs.Ytpefdmkfmcjfnaa.Mp

/-
  The laws' own 'works' returns true.
-/
import Derived.Test.YtlkijbakfoabaaaDoorSceneWorks
namespace Go.Proofs.YtlkijbakfoabaaaDoor.Scene
open Go.RowKit Go.Proofs.YtlkijbakfoabaaaDoor.Mem
set_option linter.unusedVariables false

set_option maxRecDepth 100000 in
set_option maxHeartbeats 4000000 in
theorem works_any (w : World) (hg : Hd w) :
    Calls Tryd.prog 16 #[] w fun e w' => e = .returned (.bool true) ∧ Below w.heap.size w w' := by
  have hpos := hg.pos
  have hg' := Lib.hid hg
  clear hg
  obtain ⟨n1, hn1⟩ : ∃ n, w.heap.size = n := ⟨_, rfl⟩
  have hB0 : Below n1 w w := Below.refl _ _
  go_enter Tryd.func16, Tryd.ntmps16
  go_wp2_with fail
  refine (least_any _).mono ?_
  rintro e w1 ⟨rfl, hl1, hs, hb⟩
  rw [hn1] at hl1 hs hb ⊢
  obtain ⟨n2, hn2⟩ : ∃ n, w1.heap.size = n := ⟨_, rfl⟩
  have hk1 : n1 + 4 ≤ n2 := by omega
  have hB1 : Below n1 w w1 := hB0.trans (hb.mono (by omega))
  clear hs hb hB0
  go_wp2_with fail
  refine (least_any _).mono ?_
  rintro e w2 ⟨rfl, hl2, hs, hb⟩
  rw [hn2] at hl2 hs hb ⊢
  obtain ⟨n3, hn3⟩ : ∃ n, w2.heap.size = n := ⟨_, rfl⟩
  have hk2 : n2 + 4 ≤ n3 := by omega
  have hB2 : Below n1 w w2 := hB1.trans (hb.mono (by omega))
  replace hl1 := hl1.keep hb (by omega)
  clear hs hb hB1 hn2
  go_wp2_with fail
  refine (least_any _).mono ?_
  rintro e w3 ⟨rfl, hl3, hs, hb⟩
  rw [hn3] at hl3 hs hb ⊢
  obtain ⟨n4, hn4⟩ : ∃ n, w3.heap.size = n := ⟨_, rfl⟩
  have hk3 : n3 + 4 ≤ n4 := by omega
  have hB3 : Below n1 w w3 := hB2.trans (hb.mono (by omega))
  replace hl1 := hl1.keep hb (by omega)
  replace hl2 := hl2.keep hb (by omega)
  clear hs hb hB2 hn3
  go_wp2_with fail
  refine (least_any _).mono ?_
  rintro e w4 ⟨rfl, hl4, hs, hb⟩
  rw [hn4] at hl4 hs hb ⊢
  obtain ⟨n5, hn5⟩ : ∃ n, w4.heap.size = n := ⟨_, rfl⟩
  have hk4 : n4 + 4 ≤ n5 := by omega
  have hB4 : Below n1 w w4 := hB3.trans (hb.mono (by omega))
  replace hl1 := hl1.keep hb (by omega)
  replace hl2 := hl2.keep hb (by omega)
  replace hl3 := hl3.keep hb (by omega)
  clear hs hb hB3 hn4
  obtain ⟨w5, hw5⟩ : ∃ w5, (((w4.alloc (.cells #[.slice none 0 0, .slice (some ⟨n1 + 2, 0, none⟩) 1 1, .slice none 0 0, .int .i64 1, .int .i64 1, .int .i64 0, .slice (some ⟨n1 + 3, 0, none⟩) 1 1] 33)).alloc (.cells #[.slice none 0 0, .slice (some ⟨n2 + 2, 0, none⟩) 1 1, .slice none 0 0, .int .i64 1, .int .i64 1, .int .i64 0, .slice (some ⟨n2 + 3, 0, none⟩) 1 1] 33)).alloc (.cells #[.slice none 0 0, .slice (some ⟨n3 + 2, 0, none⟩) 1 1, .slice none 0 0, .int .i64 1, .int .i64 1, .int .i64 0, .slice (some ⟨n3 + 3, 0, none⟩) 1 1] 33)).alloc (.cells #[.slice none 0 0, .slice (some ⟨n4 + 2, 0, none⟩) 1 1, .slice none 0 0, .int .i64 1, .int .i64 1, .int .i64 0, .slice (some ⟨n4 + 3, 0, none⟩) 1 1] 33) = w5 := ⟨_, rfl⟩
  have hx1 : At w5 n5 33 #[.slice none 0 0, .slice (some ⟨n1 + 2, 0, none⟩) 1 1, .slice none 0 0, .int .i64 1, .int .i64 1, .int .i64 0, .slice (some ⟨n1 + 3, 0, none⟩) 1 1] := by rw [← hw5]; exact (At.new_ _ _ _ (by simp [hn5]) |>.alloc _ |>.alloc _ |>.alloc _)
  have hx2 : At w5 (n5 + 1) 33 #[.slice none 0 0, .slice (some ⟨n2 + 2, 0, none⟩) 1 1, .slice none 0 0, .int .i64 1, .int .i64 1, .int .i64 0, .slice (some ⟨n2 + 3, 0, none⟩) 1 1] := by rw [← hw5]; exact (At.new_ _ _ _ (by simp [hn5]) |>.alloc _ |>.alloc _)
  have hx3 : At w5 (n5 + 1 + 1) 33 #[.slice none 0 0, .slice (some ⟨n3 + 2, 0, none⟩) 1 1, .slice none 0 0, .int .i64 1, .int .i64 1, .int .i64 0, .slice (some ⟨n3 + 3, 0, none⟩) 1 1] := by rw [← hw5]; exact (At.new_ _ _ _ (by simp [hn5]) |>.alloc _)
  have hx4 : At w5 (n5 + 1 + 1 + 1) 33 #[.slice none 0 0, .slice (some ⟨n4 + 2, 0, none⟩) 1 1, .slice none 0 0, .int .i64 1, .int .i64 1, .int .i64 0, .slice (some ⟨n4 + 3, 0, none⟩) 1 1] := by rw [← hw5]; exact (At.new_ _ _ _ (by simp [hn5]))
  have hB5 : Below n1 w w5 := by
    rw [← hw5]
    exact (((hB4.alloc (by omega) _).alloc (by simp; omega) _).alloc (by simp; omega) _).alloc (by simp; omega) _
  have hb5 : Below w4.heap.size w4 w5 := by rw [← hw5]; exact (((Below.refl _ _).alloc (Nat.le_refl _) _).alloc (by simp) _ |>.alloc (by simp; omega) _).alloc (by simp; omega) _
  have hs5 : n5 + 4 = w5.heap.size := by rw [← hw5]; simp; omega
  replace hl1 := hl1.keep hb5 (by omega)
  replace hl2 := hl2.keep hb5 (by omega)
  replace hl3 := hl3.keep hb5 (by omega)
  replace hl4 := hl4.keep hb5 (by omega)
  clear hB4 hb5
  go_upto_region 2 with fail
  clear hw5 hn5
  go_wp2_with fail
  refine (one_any _).mono ?_
  rintro e w6 ⟨rfl, hb6⟩
  have hB6 := hB5.trans (hb6.mono (by omega))
  obtain ⟨n6, hn6⟩ : ∃ n, w6.heap.size = n := ⟨_, rfl⟩
  have hs6 : n5 + 4 ≤ n6 := by have := hb6.size; omega
  replace hl1 := hl1.keep hb6 (by omega)
  replace hl2 := hl2.keep hb6 (by omega)
  replace hl3 := hl3.keep hb6 (by omega)
  replace hl4 := hl4.keep hb6 (by omega)
  replace hx1 := hx1.keep hb6 hx1.inside
  replace hx2 := hx2.keep hb6 hx2.inside
  replace hx3 := hx3.keep hb6 hx3.inside
  replace hx4 := hx4.keep hb6 hx4.inside
  clear hb6 hB5 hs5
  have c0 := hx1.cell 0
  have f0 := hx1.free 0
  simp at c0
  have hq0 : n5 < n6 := by omega
  have hq1 : n5 + 1 < n6 := by omega
  have hq2 : n5 + 1 + 1 < n6 := by omega
  have hq3 : n5 + 1 + 1 + 1 < n6 := by omega
  go_upto_region 3 with fail
  -- a.Requests is laid
  obtain ⟨w7, hw7⟩ : ∃ w7, (w6.setCell ⟨n5, 0, none⟩ (.slice (some ⟨n6, 0, none⟩) 1 1)).alloc (.cells #[.int .i64 0, .int .i64 0, .int .i64 1, .int .i64 0, .int .i64 0, .int .i64 50, .int .i64 0, .int .i64 50, .int .i64 1, .int .i64 0] 66) = w7 := ⟨_, rfl⟩
  have hQ : At w7 n6 66 #[.int .i64 0, .int .i64 0, .int .i64 1, .int .i64 0, .int .i64 0, .int .i64 50, .int .i64 0, .int .i64 50, .int .i64 1, .int .i64 0] := by rw [← hw7]; exact At.new_ _ _ _ (by simp [hn6])
  have hy1 : At w7 n5 33 #[.slice (some ⟨n6, 0, none⟩) 1 1, .slice (some ⟨n1 + 2, 0, none⟩) 1 1, .slice none 0 0, .int .i64 1, .int .i64 1, .int .i64 0, .slice (some ⟨n1 + 3, 0, none⟩) 1 1] := by
    rw [← hw7]; simpa using (hx1.put 0 (.slice (some ⟨n6, 0, none⟩) 1 1)).alloc (.cells #[.int .i64 0, .int .i64 0, .int .i64 1, .int .i64 0, .int .i64 0, .int .i64 50, .int .i64 0, .int .i64 50, .int .i64 1, .int .i64 0] 66)
  have hT : Turned n5 w6 w7 := by rw [← hw7]; exact (⟨rfl, rfl, rfl, by simp, fun k hk hn => Below.heap_setCell _ _ _ _ hn⟩ : Turned n5 w6 (w6.setCell ⟨n5, 0, none⟩ (.slice (some ⟨n6, 0, none⟩) 1 1))).trans (.of_below ((Below.refl _ _).alloc (Nat.le_refl _) _))
  obtain ⟨n7, hn7⟩ : ∃ n, w7.heap.size = n := ⟨_, rfl⟩
  have hs7 : n6 + 1 ≤ n7 := by have := hQ.inside; omega
  have hB7 : Below n1 w w7 := hB6.trans (hT.below (by omega) (by omega))
  replace hx2 := At.turned hx2 hT (by omega)
  replace hx3 := At.turned hx3 hT (by omega)
  replace hx4 := At.turned hx4 hT (by omega)
  replace hl1 : LeastAt w7 n1 := ⟨At.turned hl1.veh hT (by omega), At.turned hl1.car hT (by omega), At.turned hl1.draw hT (by omega)⟩
  replace hl2 : LeastAt w7 n2 := ⟨At.turned hl2.veh hT (by omega), At.turned hl2.car hT (by omega), At.turned hl2.draw hT (by omega)⟩
  replace hl3 : LeastAt w7 n3 := ⟨At.turned hl3.veh hT (by omega), At.turned hl3.car hT (by omega), At.turned hl3.draw hT (by omega)⟩
  replace hl4 : LeastAt w7 n4 := ⟨At.turned hl4.veh hT (by omega), At.turned hl4.car hT (by omega), At.turned hl4.draw hT (by omega)⟩
  try rw [hw7]
  clear hw7 hT c0 f0 hx1 hB6 hn6
  have a0 := hy1.cell 0
  simp at a0
  have c0 := hx2.cell 0
  have f0 := hx2.free 0
  simp at c0
  go_upto_region 4 with fail
  obtain ⟨w8, hw8⟩ : ∃ w8, w7.setCell ⟨n5 + 1, 0, none⟩ (.slice (some ⟨n6, 0, none⟩) 1 1) = w8 := ⟨_, rfl⟩
  have hy2 : At w8 (n5 + 1) 33 #[.slice (some ⟨n6, 0, none⟩) 1 1, .slice (some ⟨n2 + 2, 0, none⟩) 1 1, .slice none 0 0, .int .i64 1, .int .i64 1, .int .i64 0, .slice (some ⟨n2 + 3, 0, none⟩) 1 1] := by rw [← hw8]; simpa using hx2.put 0 (.slice (some ⟨n6, 0, none⟩) 1 1)
  have hT : Turned (n5 + 1) w7 w8 := by rw [← hw8]; exact (⟨rfl, rfl, rfl, by simp, fun k hk hn => Below.heap_setCell _ _ _ _ hn⟩ : Turned (n5 + 1) w7 (w7.setCell ⟨n5 + 1, 0, none⟩ (.slice (some ⟨n6, 0, none⟩) 1 1)))
  obtain ⟨n8, hn8⟩ : ∃ n, w8.heap.size = n := ⟨_, rfl⟩
  have hs8 : n7  ≤ n8 := by rw [← hn8, ← hw8]; simp; omega
  have hB8 : Below n1 w w8 := hB7.trans (hT.below (by omega) (by omega))
  replace hQ := At.turned hQ hT (by omega)
  replace hy1 := At.turned hy1 hT (by omega)
  replace hx3 := At.turned hx3 hT (by omega)
  replace hx4 := At.turned hx4 hT (by omega)
  replace hl1 : LeastAt w8 n1 := ⟨At.turned hl1.veh hT (by omega), At.turned hl1.car hT (by omega), At.turned hl1.draw hT (by omega)⟩
  replace hl2 : LeastAt w8 n2 := ⟨At.turned hl2.veh hT (by omega), At.turned hl2.car hT (by omega), At.turned hl2.draw hT (by omega)⟩
  replace hl3 : LeastAt w8 n3 := ⟨At.turned hl3.veh hT (by omega), At.turned hl3.car hT (by omega), At.turned hl3.draw hT (by omega)⟩
  replace hl4 : LeastAt w8 n4 := ⟨At.turned hl4.veh hT (by omega), At.turned hl4.car hT (by omega), At.turned hl4.draw hT (by omega)⟩
  try rw [hw8]
  clear hw8 hT hB7 hn7
  clear a0 c0 f0 hx2
  have b1 := hy2.cell 1
  simp at b1
  have hcar0 := hl2.car
  have c1 := hcar0.cell 1
  have f1 := hcar0.free 1
  simp at c1
  have hr1 : n2 + 2 < n8 := by omega
  go_upto_region 5 with fail
  obtain ⟨w9, hw9⟩ : ∃ w9, (w8.setCell ⟨n2 + 2, 1, none⟩ (.slice (some ⟨n8, 0, none⟩) 1 1)).alloc (.cells #[.int .i64 0] 3) = w9 := ⟨_, rfl⟩
  have hown : LeastOwn w9 n2 n8 := by
    have hcar : At w9 (n2 + 2) 53 #[.slice (some ⟨n2 + 1, 0, none⟩) 1 1, .slice (some ⟨n8, 0, none⟩) 1 1] := by rw [← hw9]; simpa using (hl2.car.put 1 (.slice (some ⟨n8, 0, none⟩) 1 1)).alloc (.cells #[.int .i64 0] 3)
    exact ⟨by rw [← hw9]; exact (hl2.veh.far (by omega) _ _).alloc _, hcar, by rw [← hw9]; exact (hl2.draw.far (by omega) _ _).alloc _, by rw [← hw9]; exact At.new_ _ _ _ (by simp [hn8])⟩
  have hT : Turned (n2 + 2) w8 w9 := by rw [← hw9]; exact (⟨rfl, rfl, rfl, by simp, fun k hk hn => Below.heap_setCell _ _ _ _ hn⟩ : Turned (n2 + 2) w8 (w8.setCell ⟨n2 + 2, 1, none⟩ (.slice (some ⟨n8, 0, none⟩) 1 1))).trans (.of_below ((Below.refl _ _).alloc (Nat.le_refl _) _))
  obtain ⟨n9, hn9⟩ : ∃ n, w9.heap.size = n := ⟨_, rfl⟩
  have hs9 : n8 + 1 ≤ n9 := by rw [← hn9, ← hw9]; simp; omega
  have hB9 : Below n1 w w9 := hB8.trans (hT.below (by omega) (by omega))
  replace hQ := At.turned hQ hT (by omega)
  replace hy1 := At.turned hy1 hT (by omega)
  replace hy2 := At.turned hy2 hT (by omega)
  replace hx3 := At.turned hx3 hT (by omega)
  replace hx4 := At.turned hx4 hT (by omega)
  replace hl1 : LeastAt w9 n1 := ⟨At.turned hl1.veh hT (by omega), At.turned hl1.car hT (by omega), At.turned hl1.draw hT (by omega)⟩
  replace hl3 : LeastAt w9 n3 := ⟨At.turned hl3.veh hT (by omega), At.turned hl3.car hT (by omega), At.turned hl3.draw hT (by omega)⟩
  replace hl4 : LeastAt w9 n4 := ⟨At.turned hl4.veh hT (by omega), At.turned hl4.car hT (by omega), At.turned hl4.draw hT (by omega)⟩
  try rw [hw9]
  clear hw9 hT hB8 hn8
  clear b1 c1 f1 hcar0 hl2 hr1
  have c2 := hy2.cell 2
  have f2 := hy2.free 2
  simp at c2
  have hr1 : n5 + 1 < n9 := by omega
  go_upto_region 6 with fail
  obtain ⟨w10, hw10⟩ : ∃ w10, (w9.setCell ⟨n5 + 1, 2, none⟩ (.slice (some ⟨n9, 0, none⟩) 2 2)).alloc (.cells #[.int .i64 0, .int .i64 0, .int .i64 0, .int .i64 0] 59) = w10 := ⟨_, rfl⟩
  have hz2 : At w10 (n5 + 1) 33 #[.slice (some ⟨n6, 0, none⟩) 1 1, .slice (some ⟨n2 + 2, 0, none⟩) 1 1, .slice (some ⟨n9, 0, none⟩) 2 2, .int .i64 1, .int .i64 1, .int .i64 0, .slice (some ⟨n2 + 3, 0, none⟩) 1 1] := by rw [← hw10]; simpa using (hy2.put 2 (.slice (some ⟨n9, 0, none⟩) 2 2)).alloc (.cells #[.int .i64 0, .int .i64 0, .int .i64 0, .int .i64 0] 59)
  have hL : At w10 n9 59 #[.int .i64 0, .int .i64 0, .int .i64 0, .int .i64 0] := by rw [← hw10]; exact At.new_ _ _ _ (by simp [hn9])
  have hT : Turned (n5 + 1) w9 w10 := by rw [← hw10]; exact (⟨rfl, rfl, rfl, by simp, fun k hk hn => Below.heap_setCell _ _ _ _ hn⟩ : Turned (n5 + 1) w9 (w9.setCell ⟨n5 + 1, 2, none⟩ (.slice (some ⟨n9, 0, none⟩) 2 2))).trans (.of_below ((Below.refl _ _).alloc (Nat.le_refl _) _))
  obtain ⟨n10, hn10⟩ : ∃ n, w10.heap.size = n := ⟨_, rfl⟩
  have hs10 : n9 + 1 ≤ n10 := by rw [← hn10, ← hw10]; simp; omega
  have hB10 : Below n1 w w10 := hB9.trans (hT.below (by omega) (by omega))
  replace hQ := At.turned hQ hT (by omega)
  replace hy1 := At.turned hy1 hT (by omega)
  replace hx3 := At.turned hx3 hT (by omega)
  replace hx4 := At.turned hx4 hT (by omega)
  replace hl1 : LeastAt w10 n1 := ⟨At.turned hl1.veh hT (by omega), At.turned hl1.car hT (by omega), At.turned hl1.draw hT (by omega)⟩
  replace hl3 : LeastAt w10 n3 := ⟨At.turned hl3.veh hT (by omega), At.turned hl3.car hT (by omega), At.turned hl3.draw hT (by omega)⟩
  replace hl4 : LeastAt w10 n4 := ⟨At.turned hl4.veh hT (by omega), At.turned hl4.car hT (by omega), At.turned hl4.draw hT (by omega)⟩
  replace hown : LeastOwn w10 n2 n8 := ⟨At.turned hown.veh hT (by omega), At.turned hown.car hT (by omega), At.turned hown.draw hT (by omega), At.turned hown.own hT (by omega)⟩
  try rw [hw10]
  clear hw10 hT hB9 hn9
  clear c2 f2 hy2 hr1
  have c1 := hx3.cell 1
  have f1 := hx3.free 1
  simp at c1
  go_upto_region 7 with fail
  obtain ⟨w11, hw11⟩ : ∃ w11, w10.setCell ⟨n5 + 1 + 1, 1, none⟩ (.slice none 0 0) = w11 := ⟨_, rfl⟩
  have hy3 : At w11 (n5 + 1 + 1) 33 #[.slice none 0 0, .slice none 0 0, .slice none 0 0, .int .i64 1, .int .i64 1, .int .i64 0, .slice (some ⟨n3 + 3, 0, none⟩) 1 1] := by rw [← hw11]; simpa using hx3.put 1 (.slice none 0 0)
  have hT : Turned (n5 + 1 + 1) w10 w11 := by rw [← hw11]; exact (⟨rfl, rfl, rfl, by simp, fun k hk hn => Below.heap_setCell _ _ _ _ hn⟩ : Turned (n5 + 1 + 1) w10 (w10.setCell ⟨n5 + 1 + 1, 1, none⟩ (.slice none 0 0)))
  obtain ⟨n11, hn11⟩ : ∃ n, w11.heap.size = n := ⟨_, rfl⟩
  have hs11 : n10  ≤ n11 := by rw [← hn11, ← hw11]; simp; omega
  have hB11 : Below n1 w w11 := hB10.trans (hT.below (by omega) (by omega))
  replace hQ := At.turned hQ hT (by omega)
  replace hy1 := At.turned hy1 hT (by omega)
  replace hz2 := At.turned hz2 hT (by omega)
  replace hL := At.turned hL hT (by omega)
  replace hx4 := At.turned hx4 hT (by omega)
  replace hl1 : LeastAt w11 n1 := ⟨At.turned hl1.veh hT (by omega), At.turned hl1.car hT (by omega), At.turned hl1.draw hT (by omega)⟩
  replace hl3 : LeastAt w11 n3 := ⟨At.turned hl3.veh hT (by omega), At.turned hl3.car hT (by omega), At.turned hl3.draw hT (by omega)⟩
  replace hl4 : LeastAt w11 n4 := ⟨At.turned hl4.veh hT (by omega), At.turned hl4.car hT (by omega), At.turned hl4.draw hT (by omega)⟩
  replace hown : LeastOwn w11 n2 n8 := ⟨At.turned hown.veh hT (by omega), At.turned hown.car hT (by omega), At.turned hown.draw hT (by omega), At.turned hown.own hT (by omega)⟩
  try rw [hw11]
  clear hw11 hT hB10 hn10
  clear c1 f1 hx3
  have c3 := hx4.cell 3
  have f3 := hx4.free 3
  simp at c3
  go_upto_region 8 with fail
  obtain ⟨w12, hw12⟩ : ∃ w12, w11.setCell ⟨n5 + 1 + 1 + 1, 3, none⟩ (.int .i64 0) = w12 := ⟨_, rfl⟩
  have hy4 : At w12 (n5 + 1 + 1 + 1) 33 #[.slice none 0 0, .slice (some ⟨n4 + 2, 0, none⟩) 1 1, .slice none 0 0, .int .i64 0, .int .i64 1, .int .i64 0, .slice (some ⟨n4 + 3, 0, none⟩) 1 1] := by rw [← hw12]; simpa using hx4.put 3 (.int .i64 0)
  have hT : Turned (n5 + 1 + 1 + 1) w11 w12 := by rw [← hw12]; exact (⟨rfl, rfl, rfl, by simp, fun k hk hn => Below.heap_setCell _ _ _ _ hn⟩ : Turned (n5 + 1 + 1 + 1) w11 (w11.setCell ⟨n5 + 1 + 1 + 1, 3, none⟩ (.int .i64 0)))
  obtain ⟨n12, hn12⟩ : ∃ n, w12.heap.size = n := ⟨_, rfl⟩
  have hs12 : n11  ≤ n12 := by rw [← hn12, ← hw12]; simp; omega
  have hB12 : Below n1 w w12 := hB11.trans (hT.below (by omega) (by omega))
  replace hQ := At.turned hQ hT (by omega)
  replace hy1 := At.turned hy1 hT (by omega)
  replace hz2 := At.turned hz2 hT (by omega)
  replace hL := At.turned hL hT (by omega)
  replace hy3 := At.turned hy3 hT (by omega)
  replace hl1 : LeastAt w12 n1 := ⟨At.turned hl1.veh hT (by omega), At.turned hl1.car hT (by omega), At.turned hl1.draw hT (by omega)⟩
  replace hl3 : LeastAt w12 n3 := ⟨At.turned hl3.veh hT (by omega), At.turned hl3.car hT (by omega), At.turned hl3.draw hT (by omega)⟩
  replace hl4 : LeastAt w12 n4 := ⟨At.turned hl4.veh hT (by omega), At.turned hl4.car hT (by omega), At.turned hl4.draw hT (by omega)⟩
  replace hown : LeastOwn w12 n2 n8 := ⟨At.turned hown.veh hT (by omega), At.turned hown.car hT (by omega), At.turned hown.draw hT (by omega), At.turned hown.own hT (by omega)⟩
  try rw [hw12]
  clear hw12 hT hB11 hn11
  clear c3 f3 hx4
  -- the five checks
  have hG12 := hg'.out.keep hB12 (by omega)
  have hn1' := Lib.hid hn1
  clear hn1 hk1 hk2 hk3 hk4 hs6 hs7 hs8 hs9 hs10 hs11 hs12 hq0 hq1 hq2 hq3 hn12
  have hGG := Lib.hid hG12
  clear hG12
  go_wp2_with fail
  refine (least_any _).mono ?_
  rintro e w13 ⟨rfl, hl5, _, hb⟩
  replace hQ := hQ.keep hb hQ.inside
  replace hy1 := hy1.keep hb hy1.inside
  replace hz2 := hz2.keep hb hz2.inside
  replace hL := hL.keep hb hL.inside
  replace hy3 := hy3.keep hb hy3.inside
  replace hy4 := hy4.keep hb hy4.inside
  replace hl1 := hl1.keep hb (by have := hl1.draw.inside; omega)
  replace hown := hown.keep hb (by have := hown.draw.inside; omega) hown.own.inside
  replace hl3 := hl3.keep hb (by have := hl3.draw.inside; omega)
  replace hl4 := hl4.keep hb (by have := hl4.draw.inside; omega)
  have hE13 := hb
  have hB13 := hB12.trans (hb.mono (by have := hB12.size; have := hn1'.out; omega))
  clear hb hB12
  go_wp2_with fail
  refine (Check_any leastS least_fair _ _ _ _ _ _ (scene_least hl5)).mono ?_
  rintro e w14 ⟨⟨u, rfl, hu⟩, hb⟩
  obtain rfl : u = .nilIface := by
    rw [least_f] at hu
    rcases hu with ⟨_, h⟩ | ⟨h, _⟩
    · exact h
    · exact absurd rfl h
  clear hu hl5
  replace hQ := hQ.keep hb hQ.inside
  replace hy1 := hy1.keep hb hy1.inside
  replace hz2 := hz2.keep hb hz2.inside
  replace hL := hL.keep hb hL.inside
  replace hy3 := hy3.keep hb hy3.inside
  replace hy4 := hy4.keep hb hy4.inside
  replace hl1 := hl1.keep hb (by have := hl1.draw.inside; omega)
  replace hown := hown.keep hb (by have := hown.draw.inside; omega) hown.own.inside
  replace hl3 := hl3.keep hb (by have := hl3.draw.inside; omega)
  replace hl4 := hl4.keep hb (by have := hl4.draw.inside; omega)
  have hE14 := hE13.trans (hb.mono hE13.size)
  clear hE13
  have hB14 := hB13.trans (hb.mono (by have := hB13.size; have := hn1'.out; omega))
  clear hb hB13
  have c0 := hy1.cell 0
  have c1 := hy1.cell 1
  have c2 := hy1.cell 2
  have c3 := hy1.cell 3
  have c4 := hy1.cell 4
  have c5 := hy1.cell 5
  have c6 := hy1.cell 6
  simp at c0 c1 c2 c3 c4 c5 c6
  go_wp2_with fail
  refine (fails_yes aS a_fair 11 2 0 a_f _ _ _ _ _ _ (hGG.out.keep (show Below w12.heap.size w12 w14 from hE14) hGG.out.pos) (scene_a hl1 hQ)).mono ?_
  rintro e w15 ⟨rfl, hb⟩
  clear c0 c1 c2 c3 c4 c5 c6
  clear hy1 hl1
  replace hQ := hQ.keep hb hQ.inside
  replace hz2 := hz2.keep hb hz2.inside
  replace hL := hL.keep hb hL.inside
  replace hy3 := hy3.keep hb hy3.inside
  replace hy4 := hy4.keep hb hy4.inside
  replace hown := hown.keep hb (by have := hown.draw.inside; omega) hown.own.inside
  replace hl3 := hl3.keep hb (by have := hl3.draw.inside; omega)
  replace hl4 := hl4.keep hb (by have := hl4.draw.inside; omega)
  have hB15 := hB14.trans (hb.mono (by have := hB14.size; have := hn1'.out; omega))
  have hE15 := hE14.trans (hb.mono hE14.size)
  clear hb hB14 hE14
  have c0 := hz2.cell 0
  have c1 := hz2.cell 1
  have c2 := hz2.cell 2
  have c3 := hz2.cell 3
  have c4 := hz2.cell 4
  have c5 := hz2.cell 5
  have c6 := hz2.cell 6
  simp at c0 c1 c2 c3 c4 c5 c6
  go_wp2_with fail
  refine (fails_yes bS b_fair 13 3 1 b_f _ _ _ _ _ _ (hGG.out.keep (show Below w12.heap.size w12 w15 from hE15) hGG.out.pos) (scene_b hown hQ hL)).mono ?_
  rintro e w16 ⟨rfl, hb⟩
  clear c0 c1 c2 c3 c4 c5 c6
  clear hz2 hown hL hQ
  replace hy3 := hy3.keep hb hy3.inside
  replace hy4 := hy4.keep hb hy4.inside
  replace hl3 := hl3.keep hb (by have := hl3.draw.inside; omega)
  replace hl4 := hl4.keep hb (by have := hl4.draw.inside; omega)
  have hB16 := hB15.trans (hb.mono (by have := hB15.size; have := hn1'.out; omega))
  have hE16 := hE15.trans (hb.mono hE15.size)
  clear hb hB15 hE15
  have c0 := hy3.cell 0
  have c1 := hy3.cell 1
  have c2 := hy3.cell 2
  have c3 := hy3.cell 3
  have c4 := hy3.cell 4
  have c5 := hy3.cell 5
  have c6 := hy3.cell 6
  simp at c0 c1 c2 c3 c4 c5 c6
  go_wp2_with fail
  refine (fails_yes cS c_fair 11 0 0 c_f _ _ _ _ _ _ (hGG.out.keep (show Below w12.heap.size w12 w16 from hE16) hGG.out.pos) (scene_c hl3)).mono ?_
  rintro e w17 ⟨rfl, hb⟩
  clear c0 c1 c2 c3 c4 c5 c6
  clear hy3 hl3
  replace hy4 := hy4.keep hb hy4.inside
  replace hl4 := hl4.keep hb (by have := hl4.draw.inside; omega)
  have hB17 := hB16.trans (hb.mono (by have := hB16.size; have := hn1'.out; omega))
  have hE17 := hE16.trans (hb.mono hE16.size)
  clear hb hB16 hE16
  have c0 := hy4.cell 0
  have c1 := hy4.cell 1
  have c2 := hy4.cell 2
  have c3 := hy4.cell 3
  have c4 := hy4.cell 4
  have c5 := hy4.cell 5
  have c6 := hy4.cell 6
  simp at c0 c1 c2 c3 c4 c5 c6
  go_wp2_with fail
  refine (fails_yes dS d_fair 2 0 0 d_f _ _ _ _ _ _ (hGG.out.keep (show Below w12.heap.size w12 w17 from hE17) hGG.out.pos) (scene_d hl4)).mono ?_
  rintro e w18 ⟨rfl, hb⟩
  clear c0 c1 c2 c3 c4 c5 c6
  clear hy4 hl4
  have hB18 := hB17.trans (hb.mono (by have := hB17.size; have := hn1'.out; omega))
  have hE18 := hE17.trans (hb.mono hE17.size)
  clear hb hB17 hE17
  go_wp2
  go_ret
  exact ⟨rfl, hn1'.out ▸ hB18⟩

end Go.Proofs.YtlkijbakfoabaaaDoor.Scene

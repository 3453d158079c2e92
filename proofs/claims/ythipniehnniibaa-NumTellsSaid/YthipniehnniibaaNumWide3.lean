/-
  Contracts of the answer's own wide numbers (package consignref01): numbers of unlike signs, added. Written by gen_wide3.py.
-/
import Derived.Test.YthipniehnniibaaNumWide2
namespace Go.Proofs.Ythipniehnniibaa.Num
open Go.RowKit Go.Proofs.Ythipniehnniibaa.Mem
set_option linter.unusedVariables false

theorem lessB_no {a0 a1 b0 b1 : Int} (h : lessB a0 a1 b0 b1 = false) : b1 < a1 ∨ (a1 = b1 ∧ b0 ≤ a0) := by
  simp [lessB] at h
  omega
theorem lessB_yes {a0 a1 b0 b1 : Int} (h : lessB a0 a1 b0 b1 = true) : a1 < b1 ∨ (a1 = b1 ∧ a0 < b0) := by
  simpa [lessB] using h

theorem put5 {w : World} {g : Nat} {t : TypeId} {z0 z1 z2 z3 z4 : Value} (h : At w g t #[z0, z1, z2, z3, z4]) (y0 y1 y2 y3 y4 : Value) :
    At (((((w.setCell ⟨g, 0, none⟩ y0).setCell ⟨g, 1, none⟩ y1).setCell ⟨g, 2, none⟩ y2).setCell ⟨g, 3, none⟩ y3).setCell ⟨g, 4, none⟩ y4) g t #[y0, y1, y2, y3, y4] :=
  ((((h.put 0 y0).put 1 y1).put 2 y2).put 3 y3).put 4 y4
theorem far5 {w : World} {g b : Nat} {t : TypeId} {cs : Array Value} (hb : g ≠ b) (h : At w g t cs) (y0 y1 y2 y3 y4 : Value) :
    At (((((w.setCell ⟨b, 0, none⟩ y0).setCell ⟨b, 1, none⟩ y1).setCell ⟨b, 2, none⟩ y2).setCell ⟨b, 3, none⟩ y3).setCell ⟨b, 4, none⟩ y4) g t cs :=
  ((((h.far hb 0 y0).far hb 1 y1).far hb 2 y2).far hb 3 y3).far hb 4 y4
theorem below5 {w0 w : World} {B g : Nat} (h : Below B w0 w) (hg : B ≤ g) (y0 y1 y2 y3 y4 : Value) :
    Below B w0 (((((w.setCell ⟨g, 0, none⟩ y0).setCell ⟨g, 1, none⟩ y1).setCell ⟨g, 2, none⟩ y2).setCell ⟨g, 3, none⟩ y3).setCell ⟨g, 4, none⟩ y4) :=
  ((((h.setCell (p := ⟨g, 0, none⟩) hg y0).setCell (p := ⟨g, 1, none⟩) hg y1).setCell (p := ⟨g, 2, none⟩) hg y2).setCell (p := ⟨g, 3, none⟩) hg y3).setCell (p := ⟨g, 4, none⟩) hg y4

set_option maxRecDepth 100000 in
set_option maxHeartbeats 4000000 in
theorem Add_tno (a0 a1 b0 b1 : Int) (w : World) (ha0 : 0 ≤ a0) (ha0' : a0 < 4294967296) (ha1 : 0 ≤ a1) (ha1' : a1 < 4294967296) (hb0 : 0 ≤ b0) (hb0' : b0 < 4294967296) (hb1 : 0 ≤ b1) (hb1' : b1 < 4294967296)
    (hl : lessB a0 a1 b0 b1 = false) (h0 : b0 ≤ a0) (h1 : b1 ≤ a1) :
    Calls Try.prog 11 #[wide true a0 a1 0 0, wide false b0 b1 0 0] w (SomeWide w (valW true (mag a0 a1 0 0 - mag b0 b1 0 0))) := by
  unfold wide
  go_enter Try.func11, Try.ntmps11
  go_wp2_with fail
  refine (less_any _ _ _ _ _).mono ?_
  rintro e w1 ⟨rfl, hb⟩
  have hB : Below w.heap.size w w1 := by
    refine Below.trans (b := _) ?_ (hb.mono (by simp; omega))
    repeat (first | exact Below.refl _ _ | refine Below.drew ?_ | refine Below.alloc ?_ (by simp <;> omega) _)
  have k0 : At w1 w.heap.size 29 #[.bool true, .int .u64 a0, .int .u64 a1, .int .u64 0, .int .u64 0] :=
    At.keep ((((At.new_ _ _ _ (by simp)).alloc _).alloc _)) hb (by simp; omega)
  have k1 : At w1 (w.heap.size + 1) 29 #[.bool false, .int .u64 b0, .int .u64 b1, .int .u64 0, .int .u64 0] :=
    At.keep ((((At.new_ _ _ _ (by simp)).alloc _))) hb (by simp)
  have k2 : At w1 (w.heap.size + 1 + 1) 29 #[.bool false, .int .u64 0, .int .u64 0, .int .u64 0, .int .u64 0] :=
    At.keep (((At.new_ _ _ _ (by simp)))) hb (by simp)
  have z := k2.inside
  have z0 : w.heap.size < w1.heap.size := by omega
  have z1 : w.heap.size + 1 < w1.heap.size := by omega
  clear hb
  have c0 := k0.cell 0
  have c1 := k0.cell 1
  have c2 := k0.cell 2
  have c3 := k0.cell 3
  have c4 := k0.cell 4
  have d0 := k1.cell 0
  have d1 := k1.cell 1
  have d2 := k1.cell 2
  have d3 := k1.cell 3
  have d4 := k1.cell 4
  have e0 := k2.cell 0
  have e1 := k2.cell 1
  have e2 := k2.cell 2
  have e3 := k2.cell 3
  have e4 := k2.cell 4
  have f2 := k2.free
  simp only [List.getElem?_toArray, List.getElem?_cons_zero, List.getElem?_cons_succ] at c0 c1 c2 c3 c4 d0 d1 d2 d3 d4 e0 e1 e2 e3 e4
  have K2 := Lib.hid k2
  clear k0 k1 k2
  have HB := Lib.hid hB
  clear hB
  go_wp2
  refine wp_loop_rounds 5 ?_
  rw [rounds_succ]
  go_wp2
  go_region
  all_goals go_wp2
  all_goals rw [rounds_succ]
  all_goals go_wp2
  all_goals go_region
  all_goals go_wp2
  all_goals rw [rounds_succ]
  all_goals go_wp2
  all_goals go_region
  all_goals go_wp2
  all_goals rw [rounds_succ]
  all_goals go_wp2
  all_goals go_region
  all_goals go_wp2
  all_goals rw [rounds_succ]
  all_goals go_wp2
  refine bodyPost_ret (res_Add _ _ _ rfl (((((At.alloc (put5 K2.out _ _ _ _ _) _).drew).drew).drew).drew)) rfl ⟨⟨_, rfl, ?_⟩, (((((Below.alloc (below5 HB.out (by omega) _ _ _ _ _) (by simp; omega) _).drew).drew).drew).drew)⟩
  refine ⟨true, (a0 - b0), (a1 - b1), 0, 0, rfl, by omega, by omega, by omega, by omega, ?_⟩
  unfold valW mag
  split <;> omega

set_option maxRecDepth 100000 in
set_option maxHeartbeats 4000000 in
theorem Add_tnb (a0 a1 b0 b1 : Int) (w : World) (ha0 : 0 ≤ a0) (ha0' : a0 < 4294967296) (ha1 : 0 ≤ a1) (ha1' : a1 < 4294967296) (hb0 : 0 ≤ b0) (hb0' : b0 < 4294967296) (hb1 : 0 ≤ b1) (hb1' : b1 < 4294967296)
    (hl : lessB a0 a1 b0 b1 = false) (h0 : a0 < b0) (h1 : b1 + 1 ≤ a1) :
    Calls Try.prog 11 #[wide true a0 a1 0 0, wide false b0 b1 0 0] w (SomeWide w (valW true (mag a0 a1 0 0 - mag b0 b1 0 0))) := by
  unfold wide
  go_enter Try.func11, Try.ntmps11
  go_wp2_with fail
  refine (less_any _ _ _ _ _).mono ?_
  rintro e w1 ⟨rfl, hb⟩
  have hB : Below w.heap.size w w1 := by
    refine Below.trans (b := _) ?_ (hb.mono (by simp; omega))
    repeat (first | exact Below.refl _ _ | refine Below.drew ?_ | refine Below.alloc ?_ (by simp <;> omega) _)
  have k0 : At w1 w.heap.size 29 #[.bool true, .int .u64 a0, .int .u64 a1, .int .u64 0, .int .u64 0] :=
    At.keep ((((At.new_ _ _ _ (by simp)).alloc _).alloc _)) hb (by simp; omega)
  have k1 : At w1 (w.heap.size + 1) 29 #[.bool false, .int .u64 b0, .int .u64 b1, .int .u64 0, .int .u64 0] :=
    At.keep ((((At.new_ _ _ _ (by simp)).alloc _))) hb (by simp)
  have k2 : At w1 (w.heap.size + 1 + 1) 29 #[.bool false, .int .u64 0, .int .u64 0, .int .u64 0, .int .u64 0] :=
    At.keep (((At.new_ _ _ _ (by simp)))) hb (by simp)
  have z := k2.inside
  have z0 : w.heap.size < w1.heap.size := by omega
  have z1 : w.heap.size + 1 < w1.heap.size := by omega
  clear hb
  have c0 := k0.cell 0
  have c1 := k0.cell 1
  have c2 := k0.cell 2
  have c3 := k0.cell 3
  have c4 := k0.cell 4
  have d0 := k1.cell 0
  have d1 := k1.cell 1
  have d2 := k1.cell 2
  have d3 := k1.cell 3
  have d4 := k1.cell 4
  have e0 := k2.cell 0
  have e1 := k2.cell 1
  have e2 := k2.cell 2
  have e3 := k2.cell 3
  have e4 := k2.cell 4
  have f2 := k2.free
  simp only [List.getElem?_toArray, List.getElem?_cons_zero, List.getElem?_cons_succ] at c0 c1 c2 c3 c4 d0 d1 d2 d3 d4 e0 e1 e2 e3 e4
  have K2 := Lib.hid k2
  clear k0 k1 k2
  have HB := Lib.hid hB
  clear hB
  go_wp2
  refine wp_loop_rounds 5 ?_
  rw [rounds_succ]
  go_wp2
  go_region
  all_goals go_wp2
  all_goals rw [rounds_succ]
  all_goals go_wp2
  all_goals go_region
  all_goals go_wp2
  all_goals rw [rounds_succ]
  all_goals go_wp2
  all_goals go_region
  all_goals go_wp2
  all_goals rw [rounds_succ]
  all_goals go_wp2
  all_goals go_region
  all_goals go_wp2
  all_goals rw [rounds_succ]
  all_goals go_wp2
  refine bodyPost_ret (res_Add _ _ _ rfl (((((At.alloc (put5 K2.out _ _ _ _ _) _).drew).drew).drew).drew)) rfl ⟨⟨_, rfl, ?_⟩, (((((Below.alloc (below5 HB.out (by omega) _ _ _ _ _) (by simp; omega) _).drew).drew).drew).drew)⟩
  refine ⟨true, (a0 + 4294967296 - b0), (a1 - (b1 + 1)), 0, 0, rfl, by omega, by omega, by omega, by omega, ?_⟩
  unfold valW mag
  split <;> omega

set_option maxRecDepth 100000 in
set_option maxHeartbeats 4000000 in
theorem Add_tso (a0 a1 b0 b1 : Int) (w : World) (ha0 : 0 ≤ a0) (ha0' : a0 < 4294967296) (ha1 : 0 ≤ a1) (ha1' : a1 < 4294967296) (hb0 : 0 ≤ b0) (hb0' : b0 < 4294967296) (hb1 : 0 ≤ b1) (hb1' : b1 < 4294967296)
    (hl : lessB a0 a1 b0 b1 = true) (h0 : a0 ≤ b0) (h1 : a1 ≤ b1) :
    Calls Try.prog 11 #[wide true a0 a1 0 0, wide false b0 b1 0 0] w (SomeWide w (valW false (mag b0 b1 0 0 - mag a0 a1 0 0))) := by
  unfold wide
  go_enter Try.func11, Try.ntmps11
  go_wp2_with fail
  refine (less_any _ _ _ _ _).mono ?_
  rintro e w1 ⟨rfl, hb⟩
  have hB : Below w.heap.size w w1 := by
    refine Below.trans (b := _) ?_ (hb.mono (by simp; omega))
    repeat (first | exact Below.refl _ _ | refine Below.drew ?_ | refine Below.alloc ?_ (by simp <;> omega) _)
  have k0 : At w1 w.heap.size 29 #[.bool true, .int .u64 a0, .int .u64 a1, .int .u64 0, .int .u64 0] :=
    At.keep ((((At.new_ _ _ _ (by simp)).alloc _).alloc _)) hb (by simp; omega)
  have k1 : At w1 (w.heap.size + 1) 29 #[.bool false, .int .u64 b0, .int .u64 b1, .int .u64 0, .int .u64 0] :=
    At.keep ((((At.new_ _ _ _ (by simp)).alloc _))) hb (by simp)
  have k2 : At w1 (w.heap.size + 1 + 1) 29 #[.bool false, .int .u64 0, .int .u64 0, .int .u64 0, .int .u64 0] :=
    At.keep (((At.new_ _ _ _ (by simp)))) hb (by simp)
  have z := k2.inside
  have z0 : w.heap.size < w1.heap.size := by omega
  have z1 : w.heap.size + 1 < w1.heap.size := by omega
  clear hb
  have c0 := k0.cell 0
  have c1 := k0.cell 1
  have c2 := k0.cell 2
  have c3 := k0.cell 3
  have c4 := k0.cell 4
  have d0 := k1.cell 0
  have d1 := k1.cell 1
  have d2 := k1.cell 2
  have d3 := k1.cell 3
  have d4 := k1.cell 4
  have e0 := k2.cell 0
  have e1 := k2.cell 1
  have e2 := k2.cell 2
  have e3 := k2.cell 3
  have e4 := k2.cell 4
  have f0 := k0.free
  have f1 := k1.free
  have f2 := k2.free
  simp only [List.getElem?_toArray, List.getElem?_cons_zero, List.getElem?_cons_succ] at c0 c1 c2 c3 c4 d0 d1 d2 d3 d4 e0 e1 e2 e3 e4
  have K2 := Lib.hid k2
  clear k0 k1 k2
  have HB := Lib.hid hB
  clear hB
  go_wp2
  refine wp_loop_rounds 5 ?_
  rw [rounds_succ]
  go_wp2
  go_region
  all_goals go_wp2
  all_goals rw [rounds_succ]
  all_goals go_wp2
  all_goals go_region
  all_goals go_wp2
  all_goals rw [rounds_succ]
  all_goals go_wp2
  all_goals go_region
  all_goals go_wp2
  all_goals rw [rounds_succ]
  all_goals go_wp2
  all_goals go_region
  all_goals go_wp2
  all_goals rw [rounds_succ]
  all_goals go_wp2
  refine bodyPost_ret (res_Add _ _ _ rfl (((((At.alloc (put5 (far5 (b := w.heap.size + 1) (by omega) (far5 (b := w.heap.size) (by omega) K2.out _ _ _ _ _) _ _ _ _ _) _ _ _ _ _) _).drew).drew).drew).drew)) rfl ⟨⟨_, rfl, ?_⟩, (((((Below.alloc (below5 (below5 (below5 HB.out (Nat.le_refl _) _ _ _ _ _) (by omega) _ _ _ _ _) (by omega) _ _ _ _ _) (by simp; omega) _).drew).drew).drew).drew)⟩
  refine ⟨false, (b0 - a0), (b1 - a1), 0, 0, rfl, by omega, by omega, by omega, by omega, ?_⟩
  unfold valW mag
  split <;> omega

set_option maxRecDepth 100000 in
set_option maxHeartbeats 4000000 in
theorem Add_tsb (a0 a1 b0 b1 : Int) (w : World) (ha0 : 0 ≤ a0) (ha0' : a0 < 4294967296) (ha1 : 0 ≤ a1) (ha1' : a1 < 4294967296) (hb0 : 0 ≤ b0) (hb0' : b0 < 4294967296) (hb1 : 0 ≤ b1) (hb1' : b1 < 4294967296)
    (hl : lessB a0 a1 b0 b1 = true) (h0 : b0 < a0) (h1 : a1 + 1 ≤ b1) :
    Calls Try.prog 11 #[wide true a0 a1 0 0, wide false b0 b1 0 0] w (SomeWide w (valW false (mag b0 b1 0 0 - mag a0 a1 0 0))) := by
  unfold wide
  go_enter Try.func11, Try.ntmps11
  go_wp2_with fail
  refine (less_any _ _ _ _ _).mono ?_
  rintro e w1 ⟨rfl, hb⟩
  have hB : Below w.heap.size w w1 := by
    refine Below.trans (b := _) ?_ (hb.mono (by simp; omega))
    repeat (first | exact Below.refl _ _ | refine Below.drew ?_ | refine Below.alloc ?_ (by simp <;> omega) _)
  have k0 : At w1 w.heap.size 29 #[.bool true, .int .u64 a0, .int .u64 a1, .int .u64 0, .int .u64 0] :=
    At.keep ((((At.new_ _ _ _ (by simp)).alloc _).alloc _)) hb (by simp; omega)
  have k1 : At w1 (w.heap.size + 1) 29 #[.bool false, .int .u64 b0, .int .u64 b1, .int .u64 0, .int .u64 0] :=
    At.keep ((((At.new_ _ _ _ (by simp)).alloc _))) hb (by simp)
  have k2 : At w1 (w.heap.size + 1 + 1) 29 #[.bool false, .int .u64 0, .int .u64 0, .int .u64 0, .int .u64 0] :=
    At.keep (((At.new_ _ _ _ (by simp)))) hb (by simp)
  have z := k2.inside
  have z0 : w.heap.size < w1.heap.size := by omega
  have z1 : w.heap.size + 1 < w1.heap.size := by omega
  clear hb
  have c0 := k0.cell 0
  have c1 := k0.cell 1
  have c2 := k0.cell 2
  have c3 := k0.cell 3
  have c4 := k0.cell 4
  have d0 := k1.cell 0
  have d1 := k1.cell 1
  have d2 := k1.cell 2
  have d3 := k1.cell 3
  have d4 := k1.cell 4
  have e0 := k2.cell 0
  have e1 := k2.cell 1
  have e2 := k2.cell 2
  have e3 := k2.cell 3
  have e4 := k2.cell 4
  have f0 := k0.free
  have f1 := k1.free
  have f2 := k2.free
  simp only [List.getElem?_toArray, List.getElem?_cons_zero, List.getElem?_cons_succ] at c0 c1 c2 c3 c4 d0 d1 d2 d3 d4 e0 e1 e2 e3 e4
  have K2 := Lib.hid k2
  clear k0 k1 k2
  have HB := Lib.hid hB
  clear hB
  go_wp2
  refine wp_loop_rounds 5 ?_
  rw [rounds_succ]
  go_wp2
  go_region
  all_goals go_wp2
  all_goals rw [rounds_succ]
  all_goals go_wp2
  all_goals go_region
  all_goals go_wp2
  all_goals rw [rounds_succ]
  all_goals go_wp2
  all_goals go_region
  all_goals go_wp2
  all_goals rw [rounds_succ]
  all_goals go_wp2
  all_goals go_region
  all_goals go_wp2
  all_goals rw [rounds_succ]
  all_goals go_wp2
  refine bodyPost_ret (res_Add _ _ _ rfl (((((At.alloc (put5 (far5 (b := w.heap.size + 1) (by omega) (far5 (b := w.heap.size) (by omega) K2.out _ _ _ _ _) _ _ _ _ _) _ _ _ _ _) _).drew).drew).drew).drew)) rfl ⟨⟨_, rfl, ?_⟩, (((((Below.alloc (below5 (below5 (below5 HB.out (Nat.le_refl _) _ _ _ _ _) (by omega) _ _ _ _ _) (by omega) _ _ _ _ _) (by simp; omega) _).drew).drew).drew).drew)⟩
  refine ⟨false, (b0 + 4294967296 - a0), (b1 - (a1 + 1)), 0, 0, rfl, by omega, by omega, by omega, by omega, ?_⟩
  unfold valW mag
  split <;> omega

set_option maxRecDepth 100000 in
set_option maxHeartbeats 4000000 in
theorem Add_fno (a0 a1 b0 b1 : Int) (w : World) (ha0 : 0 ≤ a0) (ha0' : a0 < 4294967296) (ha1 : 0 ≤ a1) (ha1' : a1 < 4294967296) (hb0 : 0 ≤ b0) (hb0' : b0 < 4294967296) (hb1 : 0 ≤ b1) (hb1' : b1 < 4294967296)
    (hl : lessB a0 a1 b0 b1 = false) (h0 : b0 ≤ a0) (h1 : b1 ≤ a1) :
    Calls Try.prog 11 #[wide false a0 a1 0 0, wide true b0 b1 0 0] w (SomeWide w (valW false (mag a0 a1 0 0 - mag b0 b1 0 0))) := by
  unfold wide
  go_enter Try.func11, Try.ntmps11
  go_wp2_with fail
  refine (less_any _ _ _ _ _).mono ?_
  rintro e w1 ⟨rfl, hb⟩
  have hB : Below w.heap.size w w1 := by
    refine Below.trans (b := _) ?_ (hb.mono (by simp; omega))
    repeat (first | exact Below.refl _ _ | refine Below.drew ?_ | refine Below.alloc ?_ (by simp <;> omega) _)
  have k0 : At w1 w.heap.size 29 #[.bool false, .int .u64 a0, .int .u64 a1, .int .u64 0, .int .u64 0] :=
    At.keep ((((At.new_ _ _ _ (by simp)).alloc _).alloc _)) hb (by simp; omega)
  have k1 : At w1 (w.heap.size + 1) 29 #[.bool true, .int .u64 b0, .int .u64 b1, .int .u64 0, .int .u64 0] :=
    At.keep ((((At.new_ _ _ _ (by simp)).alloc _))) hb (by simp)
  have k2 : At w1 (w.heap.size + 1 + 1) 29 #[.bool false, .int .u64 0, .int .u64 0, .int .u64 0, .int .u64 0] :=
    At.keep (((At.new_ _ _ _ (by simp)))) hb (by simp)
  have z := k2.inside
  have z0 : w.heap.size < w1.heap.size := by omega
  have z1 : w.heap.size + 1 < w1.heap.size := by omega
  clear hb
  have c0 := k0.cell 0
  have c1 := k0.cell 1
  have c2 := k0.cell 2
  have c3 := k0.cell 3
  have c4 := k0.cell 4
  have d0 := k1.cell 0
  have d1 := k1.cell 1
  have d2 := k1.cell 2
  have d3 := k1.cell 3
  have d4 := k1.cell 4
  have e0 := k2.cell 0
  have e1 := k2.cell 1
  have e2 := k2.cell 2
  have e3 := k2.cell 3
  have e4 := k2.cell 4
  have f2 := k2.free
  simp only [List.getElem?_toArray, List.getElem?_cons_zero, List.getElem?_cons_succ] at c0 c1 c2 c3 c4 d0 d1 d2 d3 d4 e0 e1 e2 e3 e4
  have K2 := Lib.hid k2
  clear k0 k1 k2
  have HB := Lib.hid hB
  clear hB
  go_wp2
  refine wp_loop_rounds 5 ?_
  rw [rounds_succ]
  go_wp2
  go_region
  all_goals go_wp2
  all_goals rw [rounds_succ]
  all_goals go_wp2
  all_goals go_region
  all_goals go_wp2
  all_goals rw [rounds_succ]
  all_goals go_wp2
  all_goals go_region
  all_goals go_wp2
  all_goals rw [rounds_succ]
  all_goals go_wp2
  all_goals go_region
  all_goals go_wp2
  all_goals rw [rounds_succ]
  all_goals go_wp2
  refine bodyPost_ret (res_Add _ _ _ rfl (((((At.alloc (put5 K2.out _ _ _ _ _) _).drew).drew).drew).drew)) rfl ⟨⟨_, rfl, ?_⟩, (((((Below.alloc (below5 HB.out (by omega) _ _ _ _ _) (by simp; omega) _).drew).drew).drew).drew)⟩
  refine ⟨false, (a0 - b0), (a1 - b1), 0, 0, rfl, by omega, by omega, by omega, by omega, ?_⟩
  unfold valW mag
  split <;> omega

set_option maxRecDepth 100000 in
set_option maxHeartbeats 4000000 in
theorem Add_fnb (a0 a1 b0 b1 : Int) (w : World) (ha0 : 0 ≤ a0) (ha0' : a0 < 4294967296) (ha1 : 0 ≤ a1) (ha1' : a1 < 4294967296) (hb0 : 0 ≤ b0) (hb0' : b0 < 4294967296) (hb1 : 0 ≤ b1) (hb1' : b1 < 4294967296)
    (hl : lessB a0 a1 b0 b1 = false) (h0 : a0 < b0) (h1 : b1 + 1 ≤ a1) :
    Calls Try.prog 11 #[wide false a0 a1 0 0, wide true b0 b1 0 0] w (SomeWide w (valW false (mag a0 a1 0 0 - mag b0 b1 0 0))) := by
  unfold wide
  go_enter Try.func11, Try.ntmps11
  go_wp2_with fail
  refine (less_any _ _ _ _ _).mono ?_
  rintro e w1 ⟨rfl, hb⟩
  have hB : Below w.heap.size w w1 := by
    refine Below.trans (b := _) ?_ (hb.mono (by simp; omega))
    repeat (first | exact Below.refl _ _ | refine Below.drew ?_ | refine Below.alloc ?_ (by simp <;> omega) _)
  have k0 : At w1 w.heap.size 29 #[.bool false, .int .u64 a0, .int .u64 a1, .int .u64 0, .int .u64 0] :=
    At.keep ((((At.new_ _ _ _ (by simp)).alloc _).alloc _)) hb (by simp; omega)
  have k1 : At w1 (w.heap.size + 1) 29 #[.bool true, .int .u64 b0, .int .u64 b1, .int .u64 0, .int .u64 0] :=
    At.keep ((((At.new_ _ _ _ (by simp)).alloc _))) hb (by simp)
  have k2 : At w1 (w.heap.size + 1 + 1) 29 #[.bool false, .int .u64 0, .int .u64 0, .int .u64 0, .int .u64 0] :=
    At.keep (((At.new_ _ _ _ (by simp)))) hb (by simp)
  have z := k2.inside
  have z0 : w.heap.size < w1.heap.size := by omega
  have z1 : w.heap.size + 1 < w1.heap.size := by omega
  clear hb
  have c0 := k0.cell 0
  have c1 := k0.cell 1
  have c2 := k0.cell 2
  have c3 := k0.cell 3
  have c4 := k0.cell 4
  have d0 := k1.cell 0
  have d1 := k1.cell 1
  have d2 := k1.cell 2
  have d3 := k1.cell 3
  have d4 := k1.cell 4
  have e0 := k2.cell 0
  have e1 := k2.cell 1
  have e2 := k2.cell 2
  have e3 := k2.cell 3
  have e4 := k2.cell 4
  have f2 := k2.free
  simp only [List.getElem?_toArray, List.getElem?_cons_zero, List.getElem?_cons_succ] at c0 c1 c2 c3 c4 d0 d1 d2 d3 d4 e0 e1 e2 e3 e4
  have K2 := Lib.hid k2
  clear k0 k1 k2
  have HB := Lib.hid hB
  clear hB
  go_wp2
  refine wp_loop_rounds 5 ?_
  rw [rounds_succ]
  go_wp2
  go_region
  all_goals go_wp2
  all_goals rw [rounds_succ]
  all_goals go_wp2
  all_goals go_region
  all_goals go_wp2
  all_goals rw [rounds_succ]
  all_goals go_wp2
  all_goals go_region
  all_goals go_wp2
  all_goals rw [rounds_succ]
  all_goals go_wp2
  all_goals go_region
  all_goals go_wp2
  all_goals rw [rounds_succ]
  all_goals go_wp2
  refine bodyPost_ret (res_Add _ _ _ rfl (((((At.alloc (put5 K2.out _ _ _ _ _) _).drew).drew).drew).drew)) rfl ⟨⟨_, rfl, ?_⟩, (((((Below.alloc (below5 HB.out (by omega) _ _ _ _ _) (by simp; omega) _).drew).drew).drew).drew)⟩
  refine ⟨false, (a0 + 4294967296 - b0), (a1 - (b1 + 1)), 0, 0, rfl, by omega, by omega, by omega, by omega, ?_⟩
  unfold valW mag
  split <;> omega

set_option maxRecDepth 100000 in
set_option maxHeartbeats 4000000 in
theorem Add_fso (a0 a1 b0 b1 : Int) (w : World) (ha0 : 0 ≤ a0) (ha0' : a0 < 4294967296) (ha1 : 0 ≤ a1) (ha1' : a1 < 4294967296) (hb0 : 0 ≤ b0) (hb0' : b0 < 4294967296) (hb1 : 0 ≤ b1) (hb1' : b1 < 4294967296)
    (hl : lessB a0 a1 b0 b1 = true) (h0 : a0 ≤ b0) (h1 : a1 ≤ b1) :
    Calls Try.prog 11 #[wide false a0 a1 0 0, wide true b0 b1 0 0] w (SomeWide w (valW true (mag b0 b1 0 0 - mag a0 a1 0 0))) := by
  unfold wide
  go_enter Try.func11, Try.ntmps11
  go_wp2_with fail
  refine (less_any _ _ _ _ _).mono ?_
  rintro e w1 ⟨rfl, hb⟩
  have hB : Below w.heap.size w w1 := by
    refine Below.trans (b := _) ?_ (hb.mono (by simp; omega))
    repeat (first | exact Below.refl _ _ | refine Below.drew ?_ | refine Below.alloc ?_ (by simp <;> omega) _)
  have k0 : At w1 w.heap.size 29 #[.bool false, .int .u64 a0, .int .u64 a1, .int .u64 0, .int .u64 0] :=
    At.keep ((((At.new_ _ _ _ (by simp)).alloc _).alloc _)) hb (by simp; omega)
  have k1 : At w1 (w.heap.size + 1) 29 #[.bool true, .int .u64 b0, .int .u64 b1, .int .u64 0, .int .u64 0] :=
    At.keep ((((At.new_ _ _ _ (by simp)).alloc _))) hb (by simp)
  have k2 : At w1 (w.heap.size + 1 + 1) 29 #[.bool false, .int .u64 0, .int .u64 0, .int .u64 0, .int .u64 0] :=
    At.keep (((At.new_ _ _ _ (by simp)))) hb (by simp)
  have z := k2.inside
  have z0 : w.heap.size < w1.heap.size := by omega
  have z1 : w.heap.size + 1 < w1.heap.size := by omega
  clear hb
  have c0 := k0.cell 0
  have c1 := k0.cell 1
  have c2 := k0.cell 2
  have c3 := k0.cell 3
  have c4 := k0.cell 4
  have d0 := k1.cell 0
  have d1 := k1.cell 1
  have d2 := k1.cell 2
  have d3 := k1.cell 3
  have d4 := k1.cell 4
  have e0 := k2.cell 0
  have e1 := k2.cell 1
  have e2 := k2.cell 2
  have e3 := k2.cell 3
  have e4 := k2.cell 4
  have f0 := k0.free
  have f1 := k1.free
  have f2 := k2.free
  simp only [List.getElem?_toArray, List.getElem?_cons_zero, List.getElem?_cons_succ] at c0 c1 c2 c3 c4 d0 d1 d2 d3 d4 e0 e1 e2 e3 e4
  have K2 := Lib.hid k2
  clear k0 k1 k2
  have HB := Lib.hid hB
  clear hB
  go_wp2
  refine wp_loop_rounds 5 ?_
  rw [rounds_succ]
  go_wp2
  go_region
  all_goals go_wp2
  all_goals rw [rounds_succ]
  all_goals go_wp2
  all_goals go_region
  all_goals go_wp2
  all_goals rw [rounds_succ]
  all_goals go_wp2
  all_goals go_region
  all_goals go_wp2
  all_goals rw [rounds_succ]
  all_goals go_wp2
  all_goals go_region
  all_goals go_wp2
  all_goals rw [rounds_succ]
  all_goals go_wp2
  refine bodyPost_ret (res_Add _ _ _ rfl (((((At.alloc (put5 (far5 (b := w.heap.size + 1) (by omega) (far5 (b := w.heap.size) (by omega) K2.out _ _ _ _ _) _ _ _ _ _) _ _ _ _ _) _).drew).drew).drew).drew)) rfl ⟨⟨_, rfl, ?_⟩, (((((Below.alloc (below5 (below5 (below5 HB.out (Nat.le_refl _) _ _ _ _ _) (by omega) _ _ _ _ _) (by omega) _ _ _ _ _) (by simp; omega) _).drew).drew).drew).drew)⟩
  refine ⟨true, (b0 - a0), (b1 - a1), 0, 0, rfl, by omega, by omega, by omega, by omega, ?_⟩
  unfold valW mag
  split <;> omega

set_option maxRecDepth 100000 in
set_option maxHeartbeats 4000000 in
theorem Add_fsb (a0 a1 b0 b1 : Int) (w : World) (ha0 : 0 ≤ a0) (ha0' : a0 < 4294967296) (ha1 : 0 ≤ a1) (ha1' : a1 < 4294967296) (hb0 : 0 ≤ b0) (hb0' : b0 < 4294967296) (hb1 : 0 ≤ b1) (hb1' : b1 < 4294967296)
    (hl : lessB a0 a1 b0 b1 = true) (h0 : b0 < a0) (h1 : a1 + 1 ≤ b1) :
    Calls Try.prog 11 #[wide false a0 a1 0 0, wide true b0 b1 0 0] w (SomeWide w (valW true (mag b0 b1 0 0 - mag a0 a1 0 0))) := by
  unfold wide
  go_enter Try.func11, Try.ntmps11
  go_wp2_with fail
  refine (less_any _ _ _ _ _).mono ?_
  rintro e w1 ⟨rfl, hb⟩
  have hB : Below w.heap.size w w1 := by
    refine Below.trans (b := _) ?_ (hb.mono (by simp; omega))
    repeat (first | exact Below.refl _ _ | refine Below.drew ?_ | refine Below.alloc ?_ (by simp <;> omega) _)
  have k0 : At w1 w.heap.size 29 #[.bool false, .int .u64 a0, .int .u64 a1, .int .u64 0, .int .u64 0] :=
    At.keep ((((At.new_ _ _ _ (by simp)).alloc _).alloc _)) hb (by simp; omega)
  have k1 : At w1 (w.heap.size + 1) 29 #[.bool true, .int .u64 b0, .int .u64 b1, .int .u64 0, .int .u64 0] :=
    At.keep ((((At.new_ _ _ _ (by simp)).alloc _))) hb (by simp)
  have k2 : At w1 (w.heap.size + 1 + 1) 29 #[.bool false, .int .u64 0, .int .u64 0, .int .u64 0, .int .u64 0] :=
    At.keep (((At.new_ _ _ _ (by simp)))) hb (by simp)
  have z := k2.inside
  have z0 : w.heap.size < w1.heap.size := by omega
  have z1 : w.heap.size + 1 < w1.heap.size := by omega
  clear hb
  have c0 := k0.cell 0
  have c1 := k0.cell 1
  have c2 := k0.cell 2
  have c3 := k0.cell 3
  have c4 := k0.cell 4
  have d0 := k1.cell 0
  have d1 := k1.cell 1
  have d2 := k1.cell 2
  have d3 := k1.cell 3
  have d4 := k1.cell 4
  have e0 := k2.cell 0
  have e1 := k2.cell 1
  have e2 := k2.cell 2
  have e3 := k2.cell 3
  have e4 := k2.cell 4
  have f0 := k0.free
  have f1 := k1.free
  have f2 := k2.free
  simp only [List.getElem?_toArray, List.getElem?_cons_zero, List.getElem?_cons_succ] at c0 c1 c2 c3 c4 d0 d1 d2 d3 d4 e0 e1 e2 e3 e4
  have K2 := Lib.hid k2
  clear k0 k1 k2
  have HB := Lib.hid hB
  clear hB
  go_wp2
  refine wp_loop_rounds 5 ?_
  rw [rounds_succ]
  go_wp2
  go_region
  all_goals go_wp2
  all_goals rw [rounds_succ]
  all_goals go_wp2
  all_goals go_region
  all_goals go_wp2
  all_goals rw [rounds_succ]
  all_goals go_wp2
  all_goals go_region
  all_goals go_wp2
  all_goals rw [rounds_succ]
  all_goals go_wp2
  all_goals go_region
  all_goals go_wp2
  all_goals rw [rounds_succ]
  all_goals go_wp2
  refine bodyPost_ret (res_Add _ _ _ rfl (((((At.alloc (put5 (far5 (b := w.heap.size + 1) (by omega) (far5 (b := w.heap.size) (by omega) K2.out _ _ _ _ _) _ _ _ _ _) _ _ _ _ _) _).drew).drew).drew).drew)) rfl ⟨⟨_, rfl, ?_⟩, (((((Below.alloc (below5 (below5 (below5 HB.out (Nat.le_refl _) _ _ _ _ _) (by omega) _ _ _ _ _) (by omega) _ _ _ _ _) (by simp; omega) _).drew).drew).drew).drew)⟩
  refine ⟨true, (b0 + 4294967296 - a0), (b1 - (a1 + 1)), 0, 0, rfl, by omega, by omega, by omega, by omega, ?_⟩
  unfold valW mag
  split <;> omega

end Go.Proofs.Ythipniehnniibaa.Num

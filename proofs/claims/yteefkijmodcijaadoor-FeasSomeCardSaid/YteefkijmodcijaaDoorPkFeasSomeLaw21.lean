import Derived.Test.YteefkijmodcijaaDoorPkFeasSomeLaw17
import Derived.Test.YteefkijmodcijaaDoorPkFeasSomeLaw18
import Derived.Test.YteefkijmodcijaaDoorPkFeasSomeLaw12
import Derived.Test.YteefkijmodcijaaDoorPkFeasSomeLaw20

/-
  The contract of package feas's trip's pass, by whatever pace.
-/
namespace Go.Proofs.YteefkijmodcijaaDoor.Feas
open Go.RowKit Go.Sort Go.Proofs.YteefkijmodcijaaDoor.Mem Go.Proofs.YteefkijmodcijaaDoor.Route Go.Proofs.YteefkijmodcijaaDoor.When Go.Proofs.YteefkijmodcijaaDoor.Load Go.Proofs.YteefkijmodcijaaDoor.Float Go.Proofs.YteefkijmodcijaaDoor.Tail Go.Proofs.YteefkijmodcijaaDoor.Place
set_option linter.unusedVariables false

/-- A visit's numbers are such as a request that may be has. -/
def OkVi (x : Vi) : Prop := 0 ≤ x.we ∧ x.we ≤ x.wl ∧ x.wl ≤ 1048576 ∧ 0 ≤ x.sv ∧ x.sv ≤ 1000
/-- What a pace answers, in whatever world that is as w below B, at the first L stops. -/
def PaceC (n : Nat) (lb : Array Value) (L : Nat) (w : World) (B : Nat) (P : Pace) : Prop :=
  ∀ (w' : World), Below B w w' → ∀ (k : Nat) (x : Vi) (m : Int), k < L → OkVi x → 0 ≤ m → m ≤ 1000000000 →
    Calls Tryd.prog n (#[.int .i64 k, .agg #[.int .i64 x.px, .int .i64 x.py, .int .i64 x.we, .int .i64 x.wl, .int .i64 x.sv], .int .i64 m] ++ lb) w' fun e w'' => e = .returned (.tuple #[.int .i64 (P k x m).1, .bool (P k x m).2]) ∧ Below w'.heap.size w' w''
theorem PaceC.on {n : Nat} {lb : Array Value} {L : Nat} {w w1 : World} {B : Nat} {P : Pace} (h : PaceC n lb L w B P) (hb : Below B w w1) : PaceC n lb L w1 B P := fun w' hw' => h w' (hb.trans hw')
theorem Two.weak {g m : Nat} {w w' : World} (h : Two g g w w') : Two g m w w' := ⟨h.os, h.tape, h.output, h.size, fun k hk hn _ => h.block k hk hn hn⟩
theorem Two.fate {g mb n : Nat} {w w' : World} {f : Int → Option Int} (h : Two g g w w') (hM : FateAt w mb n f) (hne : mb ≠ g) : FateAt w' mb n f := hM.same (h.block mb hM.inside hne hne)
theorem put_trip {w : World} {g : Nat} {t : TypeId} {x0 x1 x2 x3 x4 x5 x6 x7 x8 x9 x10 x11 y9 y10 y11 : Value} (h : At w g t #[x0, x1, x2, x3, x4, x5, x6, x7, x8, x9, x10, x11]) :
    At (((w.setCell ⟨g, 9, none⟩ y9).setCell ⟨g, 10, none⟩ y10).setCell ⟨g, 11, none⟩ y11) g t #[x0, x1, x2, x3, x4, x5, x6, x7, x8, y9, y10, y11] := by
  simpa using ((h.put 9 y9).put 10 y10).put 11 y11
theorem dist_bd (a b : Int × Int) : 0 ≤ distV a b ∧ distV a b ≤ 100000 := by
  unfold distV
  split
  · rename_i h
    rw [Bool.and_eq_true] at h
    have h1 := (mayB_iff _).1 h.1
    have h2 := (mayB_iff _).1 h.2
    unfold gap
    omega
  · omega

set_option maxRecDepth 100000 in
set_option maxHeartbeats 4000000 in
theorem passC (hx hy cp st en ld px py now s1 s2 : Int) (vt mv c : Value) (n g B k L : Nat) (P : Pace) (t : List Rq) (x : Vi) (w : World) (hin : ∀ args w, (callFunc n args).run Tryd.prog w = .ok (.enter n args) w) (hv : visO t (s1, s2) = some x) (hok : OkVi x)
    (hnow : 0 ≤ now ∧ now ≤ 500000000) (hk : k < L) (hP : PaceC n #[c] L w B P)
    (hg : At w g 115 #[.int .i64 hx, .int .i64 hy, .int .i64 cp, .int .i64 st, .int .i64 en, vt, .func (.func n) #[] #[c], mv, .int .i64 ld, .int .i64 px, .int .i64 py, .int .i64 now]) (hB : B ≤ w.heap.size) (hBg : B ≤ g) (hT : Rqs B w vt t) :
    Calls Tryd.prog 94 #[.pointer (some ⟨g, 0, none⟩), .int .i64 (k : Int), .agg #[.int .i64 s1, .int .i64 s2]] w fun e w' =>
      e = .returned (.bool (P k x (now + distV (px, py) (x.px, x.py))).2) ∧
        At w' g 115 #[.int .i64 hx, .int .i64 hy, .int .i64 cp, .int .i64 st, .int .i64 en, vt, .func (.func n) #[] #[c], mv, .int .i64 ld, .int .i64 x.px, .int .i64 x.py, .int .i64 (P k x (now + distV (px, py) (x.px, x.py))).1] ∧ Two g g w w' := by
  obtain ⟨D, hD⟩ : ∃ D, distV (px, py) (x.px, x.py) = D := ⟨_, rfl⟩
  have cD : ∀ W, Calls Tryd.prog 63 #[.agg #[.int .i64 px, .int .i64 py], .agg #[.int .i64 x.px, .int .i64 x.py]] W fun e w' => e = .returned (.int .i64 D) ∧ Below W.heap.size W w' := fun W => by rw [← hD]; exact Dist_any _ _ _ _ W
  have hDb : 0 ≤ D ∧ D ≤ 100000 := by rw [← hD]; exact dist_bd _ _
  obtain ⟨hD1, hD2⟩ := hDb
  obtain ⟨hn1, hn2⟩ := hnow
  have hnD1 : 0 ≤ now + D := by omega
  have hnD2 : now + D ≤ 1000000000 := by omega
  have hPY := fun W (hW : Below B w W) => hP W hW k x (now + D) hk hok hnD1 hnD2
  rw [hD]
  generalize P k x (now + D) = Y at *
  simp only [List.append_toArray, List.cons_append, List.nil_append] at hPY
  clear hD hP
  obtain ⟨m, hmq⟩ : ∃ m, w.heap.size = m := ⟨_, rfl⟩
  obtain ⟨w1, hw1⟩ : ∃ w1, w.alloc (.cells #[.int .i64 s1, .int .i64 s2] 65) = w1 := ⟨_, rfl⟩
  have hS : At w1 m 65 #[.int .i64 s1, .int .i64 s2] := by rw [← hw1]; exact At.new_ _ _ _ hmq.symm
  have hG : At w1 g 115 #[.int .i64 hx, .int .i64 hy, .int .i64 cp, .int .i64 st, .int .i64 en, vt, .func (.func n) #[] #[c], mv, .int .i64 ld, .int .i64 px, .int .i64 py, .int .i64 now] := by rw [← hw1]; exact hg.alloc _
  have hb1 : Below w.heap.size w w1 := by rw [← hw1]; exact (Below.refl _ _).alloc (Nat.le_refl _) _
  have hT1 := hT.keep hb1 hB
  have hP1 := Lib.hid (fun W (hW : Below B w1 W) => hPY W ((hb1.mono hB).trans hW))
  have hTw : Two g g w w1 := .of_below hb1
  have hgi := hg.inside
  have hgne : g ≠ m := by omega
  have hB1 : B ≤ w1.heap.size := by have := hb1.size; omega
  have hs1 : w1.heap.size = m + 1 := by rw [← hw1]; simp [hmq]
  have hs1' := Lib.hid hs1
  have cV : ∀ W, Below w1.heap.size w1 W → Calls Tryd.prog 97 #[.pointer (some ⟨g, 0, none⟩), .agg #[.int .i64 s1, .int .i64 s2]] W fun e w' =>
      e = .returned (.agg #[.int .i64 x.px, .int .i64 x.py, .int .i64 x.we, .int .i64 x.wl, .int .i64 x.sv]) ∧ Below W.heap.size W w' := fun W hW =>
    visit_any hx hy cp st en ld px py now s1 s2 _ mv vt g B t x W hv (hG.keep hW hG.inside) (by have := hW.size; omega) (hT1.keep hW hB1)
  have hw1' := Lib.hid hw1
  have hmq' := Lib.hid hmq
  have hgm : g < m := by omega
  clear hg hT hw1 hmq hv hb1 hPY hT1 hgi hB hs1
  go_enter Tryd.func94, Tryd.ntmps94
  go_wp2_with fail
  rw [hw1'.out]
  simp only [hmq'.out]
  refine (cV w1 (Below.refl _ _)).mono ?_
  rintro e w2 ⟨rfl, hb2⟩
  have hG2 := hG.keep hb2 hG.inside
  have hTw2 := hTw.on hb2
  have hP2 := Lib.hid (fun W (hW : Below B w2 W) => hP1.out W ((hb2.mono hB1).trans hW))
  obtain ⟨gn, hgn⟩ : ∃ gn, w2.heap.size = gn := ⟨_, rfl⟩
  obtain ⟨w3, hw3⟩ : ∃ w3, w2.alloc (.cells #[.int .i64 x.px, .int .i64 x.py, .int .i64 x.we, .int .i64 x.wl, .int .i64 x.sv] 120) = w3 := ⟨_, rfl⟩
  have hG3 := hG2.alloc (.cells #[.int .i64 x.px, .int .i64 x.py, .int .i64 x.we, .int .i64 x.wl, .int .i64 x.sv] 120)
  rw [hw3] at hG3
  have hX3 : At w3 gn 120 #[.int .i64 x.px, .int .i64 x.py, .int .i64 x.we, .int .i64 x.wl, .int .i64 x.sv] := by rw [← hw3]; exact At.new_ _ _ _ hgn.symm
  have hb3 : Below w2.heap.size w2 w3 := by rw [← hw3]; exact (Below.refl _ _).alloc (Nat.le_refl _) _
  have hTw3 := hTw2.on hb3
  have hP3 := Lib.hid (fun W (hW : Below B w3 W) => hP2.out W ((hb3.mono (by have := hb2.size; omega)).trans hW))
  have hw3' := Lib.hid hw3
  have hgn' := Lib.hid hgn
  clear hw3 hb2 hb3 hG hS hG2 hP1 hP2 hTw hTw2 cV hgn
  go_upto_region 2 with fail
  simp only [hgn'.out]
  rw [hw3'.out]
  have cP := fun W (hW : Below w3.heap.size w3 W) => hP3.out W (hW.mono (by have := hG3.inside; omega))
  have g6 := hG3.cell 6
  have g9 := hG3.cell 9
  have g10 := hG3.cell 10
  have g11 := hG3.cell 11
  have x0 := hX3.cell 0
  have x1 := hX3.cell 1
  have x2 := hX3.cell 2
  have x3 := hX3.cell 3
  have x4 := hX3.cell 4
  simp at g6 g9 g10 g11 x0 x1 x2 x3 x4
  have kg6 := cell_regrown g6
  have kg9 := cell_regrown g9
  have kg10 := cell_regrown g10
  have kg11 := cell_regrown g11
  have kx0 := cell_regrown x0
  have kx1 := cell_regrown x1
  have kx2 := cell_regrown x2
  have kx3 := cell_regrown x3
  have kx4 := cell_regrown x4
  have kD := fun d os => Calls.regrown_of (cD (grow (redrawn w3 d) os))
  have kP := fun d os => Calls.regrown_of (cP (grow (redrawn w3 d) os) (below_regrown w3 d os))
  refine wp_region_quiet_below (by kernel_rfl) (by kernel_rfl) ?_
  repeat (go_big_quiet_step (first | with_reducible exact kD _ _ | with_reducible exact kP _ _))
  refine wpQuiet_nil ?_
  intro _ hw'
  obtain ⟨⟨dq, osq⟩, hw''⟩ := hw'
  subst hw''
  have hb4 := below_regrown w3 dq osq
  have hG4 := hG3.keep hb4 hG3.inside
  have hX4 := hX3.keep hb4 hX3.inside
  have hTw4 := hTw3.on hb4
  clear kg6 kg9 kg10 kg11 kx0 kx1 kx2 kx3 kx4 kD kP cD cP g6 g9 g10 g11 x0 x1 x2 x3 x4 hG3 hX3 hTw3 hb4
  generalize grow (redrawn w3 dq) osq = w4 at *
  have x0 := hX4.cell 0
  have x1 := hX4.cell 1
  have g9 := hG4.cell 9
  have g10 := hG4.cell 10
  have g11 := hG4.cell 11
  have gf := hG4.free
  simp at g9 g10 g11 x0 x1
  go_wp2
  go_ret
  exact ⟨rfl, put_trip hG4, ((hTw4.trans (.setG _ _ _ _ _)).trans (.setG _ _ _ _ _)).trans (.setG _ _ _ _ _)⟩

set_option maxRecDepth 100000 in
set_option maxHeartbeats 4000000 in
theorem passN (hx hy cp st en ld px py now s1 s2 : Int) (vt mv : Value) (n g B k L : Nat) (P : Pace) (t : List Rq) (x : Vi) (w : World) (hin : ∀ args w, (callFunc n args).run Tryd.prog w = .ok (.enter n args) w) (hv : visO t (s1, s2) = some x) (hok : OkVi x)
    (hnow : 0 ≤ now ∧ now ≤ 500000000) (hk : k < L) (hP : PaceC n #[] L w B P)
    (hg : At w g 115 #[.int .i64 hx, .int .i64 hy, .int .i64 cp, .int .i64 st, .int .i64 en, vt, .func (.func n) #[] #[], mv, .int .i64 ld, .int .i64 px, .int .i64 py, .int .i64 now]) (hB : B ≤ w.heap.size) (hBg : B ≤ g) (hT : Rqs B w vt t) :
    Calls Tryd.prog 94 #[.pointer (some ⟨g, 0, none⟩), .int .i64 (k : Int), .agg #[.int .i64 s1, .int .i64 s2]] w fun e w' =>
      e = .returned (.bool (P k x (now + distV (px, py) (x.px, x.py))).2) ∧
        At w' g 115 #[.int .i64 hx, .int .i64 hy, .int .i64 cp, .int .i64 st, .int .i64 en, vt, .func (.func n) #[] #[], mv, .int .i64 ld, .int .i64 x.px, .int .i64 x.py, .int .i64 (P k x (now + distV (px, py) (x.px, x.py))).1] ∧ Two g g w w' := by
  obtain ⟨D, hD⟩ : ∃ D, distV (px, py) (x.px, x.py) = D := ⟨_, rfl⟩
  have cD : ∀ W, Calls Tryd.prog 63 #[.agg #[.int .i64 px, .int .i64 py], .agg #[.int .i64 x.px, .int .i64 x.py]] W fun e w' => e = .returned (.int .i64 D) ∧ Below W.heap.size W w' := fun W => by rw [← hD]; exact Dist_any _ _ _ _ W
  have hDb : 0 ≤ D ∧ D ≤ 100000 := by rw [← hD]; exact dist_bd _ _
  obtain ⟨hD1, hD2⟩ := hDb
  obtain ⟨hn1, hn2⟩ := hnow
  have hnD1 : 0 ≤ now + D := by omega
  have hnD2 : now + D ≤ 1000000000 := by omega
  have hPY := fun W (hW : Below B w W) => hP W hW k x (now + D) hk hok hnD1 hnD2
  rw [hD]
  generalize P k x (now + D) = Y at *
  simp only [Array.append_empty] at hPY
  clear hD hP
  obtain ⟨m, hmq⟩ : ∃ m, w.heap.size = m := ⟨_, rfl⟩
  obtain ⟨w1, hw1⟩ : ∃ w1, w.alloc (.cells #[.int .i64 s1, .int .i64 s2] 65) = w1 := ⟨_, rfl⟩
  have hS : At w1 m 65 #[.int .i64 s1, .int .i64 s2] := by rw [← hw1]; exact At.new_ _ _ _ hmq.symm
  have hG : At w1 g 115 #[.int .i64 hx, .int .i64 hy, .int .i64 cp, .int .i64 st, .int .i64 en, vt, .func (.func n) #[] #[], mv, .int .i64 ld, .int .i64 px, .int .i64 py, .int .i64 now] := by rw [← hw1]; exact hg.alloc _
  have hb1 : Below w.heap.size w w1 := by rw [← hw1]; exact (Below.refl _ _).alloc (Nat.le_refl _) _
  have hT1 := hT.keep hb1 hB
  have hP1 := Lib.hid (fun W (hW : Below B w1 W) => hPY W ((hb1.mono hB).trans hW))
  have hTw : Two g g w w1 := .of_below hb1
  have hgi := hg.inside
  have hgne : g ≠ m := by omega
  have hB1 : B ≤ w1.heap.size := by have := hb1.size; omega
  have hs1 : w1.heap.size = m + 1 := by rw [← hw1]; simp [hmq]
  have hs1' := Lib.hid hs1
  have cV : ∀ W, Below w1.heap.size w1 W → Calls Tryd.prog 97 #[.pointer (some ⟨g, 0, none⟩), .agg #[.int .i64 s1, .int .i64 s2]] W fun e w' =>
      e = .returned (.agg #[.int .i64 x.px, .int .i64 x.py, .int .i64 x.we, .int .i64 x.wl, .int .i64 x.sv]) ∧ Below W.heap.size W w' := fun W hW =>
    visit_any hx hy cp st en ld px py now s1 s2 _ mv vt g B t x W hv (hG.keep hW hG.inside) (by have := hW.size; omega) (hT1.keep hW hB1)
  have hw1' := Lib.hid hw1
  have hmq' := Lib.hid hmq
  have hgm : g < m := by omega
  clear hg hT hw1 hmq hv hb1 hPY hT1 hgi hB hs1
  go_enter Tryd.func94, Tryd.ntmps94
  go_wp2_with fail
  rw [hw1'.out]
  simp only [hmq'.out]
  refine (cV w1 (Below.refl _ _)).mono ?_
  rintro e w2 ⟨rfl, hb2⟩
  have hG2 := hG.keep hb2 hG.inside
  have hTw2 := hTw.on hb2
  have hP2 := Lib.hid (fun W (hW : Below B w2 W) => hP1.out W ((hb2.mono hB1).trans hW))
  obtain ⟨gn, hgn⟩ : ∃ gn, w2.heap.size = gn := ⟨_, rfl⟩
  obtain ⟨w3, hw3⟩ : ∃ w3, w2.alloc (.cells #[.int .i64 x.px, .int .i64 x.py, .int .i64 x.we, .int .i64 x.wl, .int .i64 x.sv] 120) = w3 := ⟨_, rfl⟩
  have hG3 := hG2.alloc (.cells #[.int .i64 x.px, .int .i64 x.py, .int .i64 x.we, .int .i64 x.wl, .int .i64 x.sv] 120)
  rw [hw3] at hG3
  have hX3 : At w3 gn 120 #[.int .i64 x.px, .int .i64 x.py, .int .i64 x.we, .int .i64 x.wl, .int .i64 x.sv] := by rw [← hw3]; exact At.new_ _ _ _ hgn.symm
  have hb3 : Below w2.heap.size w2 w3 := by rw [← hw3]; exact (Below.refl _ _).alloc (Nat.le_refl _) _
  have hTw3 := hTw2.on hb3
  have hP3 := Lib.hid (fun W (hW : Below B w3 W) => hP2.out W ((hb3.mono (by have := hb2.size; omega)).trans hW))
  have hw3' := Lib.hid hw3
  have hgn' := Lib.hid hgn
  clear hw3 hb2 hb3 hG hS hG2 hP1 hP2 hTw hTw2 cV hgn
  go_upto_region 2 with fail
  simp only [hgn'.out]
  rw [hw3'.out]
  have cP := fun W (hW : Below w3.heap.size w3 W) => hP3.out W (hW.mono (by have := hG3.inside; omega))
  have g6 := hG3.cell 6
  have g9 := hG3.cell 9
  have g10 := hG3.cell 10
  have g11 := hG3.cell 11
  have x0 := hX3.cell 0
  have x1 := hX3.cell 1
  have x2 := hX3.cell 2
  have x3 := hX3.cell 3
  have x4 := hX3.cell 4
  simp at g6 g9 g10 g11 x0 x1 x2 x3 x4
  have kg6 := cell_regrown g6
  have kg9 := cell_regrown g9
  have kg10 := cell_regrown g10
  have kg11 := cell_regrown g11
  have kx0 := cell_regrown x0
  have kx1 := cell_regrown x1
  have kx2 := cell_regrown x2
  have kx3 := cell_regrown x3
  have kx4 := cell_regrown x4
  have kD := fun d os => Calls.regrown_of (cD (grow (redrawn w3 d) os))
  have kP := fun d os => Calls.regrown_of (cP (grow (redrawn w3 d) os) (below_regrown w3 d os))
  refine wp_region_quiet_below (by kernel_rfl) (by kernel_rfl) ?_
  repeat (go_big_quiet_step (first | with_reducible exact kD _ _ | with_reducible exact kP _ _))
  refine wpQuiet_nil ?_
  intro _ hw'
  obtain ⟨⟨dq, osq⟩, hw''⟩ := hw'
  subst hw''
  have hb4 := below_regrown w3 dq osq
  have hG4 := hG3.keep hb4 hG3.inside
  have hX4 := hX3.keep hb4 hX3.inside
  have hTw4 := hTw3.on hb4
  clear kg6 kg9 kg10 kg11 kx0 kx1 kx2 kx3 kx4 kD kP cD cP g6 g9 g10 g11 x0 x1 x2 x3 x4 hG3 hX3 hTw3 hb4
  generalize grow (redrawn w3 dq) osq = w4 at *
  have x0 := hX4.cell 0
  have x1 := hX4.cell 1
  have g9 := hG4.cell 9
  have g10 := hG4.cell 10
  have g11 := hG4.cell 11
  have gf := hG4.free
  simp at g9 g10 g11 x0 x1
  go_wp2
  go_ret
  exact ⟨rfl, put_trip hG4, ((hTw4.trans (.setG _ _ _ _ _)).trans (.setG _ _ _ _ _)).trans (.setG _ _ _ _ _)⟩

end Go.Proofs.YteefkijmodcijaaDoor.Feas

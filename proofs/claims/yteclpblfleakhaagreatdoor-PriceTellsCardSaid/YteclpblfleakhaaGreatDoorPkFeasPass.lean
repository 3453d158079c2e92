import Derived.Test.YteclpblfleakhaaGreatDoorPkFeasMath2

namespace Go.Proofs.YteclpblfleakhaaGreatDoor.Feas
open Go.RowKit Go.Sort Go.Proofs.YteclpblfleakhaaGreatDoor.Mem Go.Proofs.YteclpblfleakhaaGreatDoor.Route Go.Proofs.YteclpblfleakhaaGreatDoor.When Go.Proofs.YteclpblfleakhaaGreatDoor.Load Go.Proofs.YteclpblfleakhaaGreatDoor.Float Go.Proofs.YteclpblfleakhaaGreatDoor.Tail Go.Proofs.YteclpblfleakhaaGreatDoor.Place
set_option linter.unusedVariables false
def OkVi (x : Vi) : Prop := 0 ≤ x.we ∧ x.we ≤ x.wl ∧ x.wl ≤ 1048576 ∧ 0 ≤ x.sv ∧ x.sv ≤ 1000
def PaceC (n : Nat) (lb : Array Value) (L : Nat) (w : World) (B : Nat) (P : Pace) : Prop :=
 ∀ (w' : World), Below B w w' → ∀ (k : Nat) (x : Vi) (m : Int), k < L → OkVi x → 0 ≤ m → m ≤ 1000000000 →
  Calls Tryz.prog n (#[.int .i64 k, .agg #[.int .i64 x.px, .int .i64 x.py, .int .i64 x.we, .int .i64 x.wl, .int .i64 x.sv], .int .i64 m] ++ lb) w' fun e w'' => e = .returned (.tuple #[.int .i64 (P k x m).1, .bool (P k x m).2]) ∧ Below w'.heap.size w' w''
theorem PaceC.on {n : Nat} {lb : Array Value} {L : Nat} {w w1 : World} {B : Nat} {P : Pace} (h : PaceC n lb L w B P) (hb : Below B w w1) : PaceC n lb L w1 B P := fun w' hw' => h w' (hb.trans hw')
theorem Two.weak {g m : Nat} {w w' : World} (h : Two g g w w') : Two g m w w' := ⟨h.os, h.tape, h.output, h.size, fun k hk hn _ => h.block k hk hn hn⟩
theorem Two.fate {g mb n : Nat} {w w' : World} {f : Int → Option Int} (h : Two g g w w') (hM : FateAt w mb n f) (hne : mb ≠ g) : FateAt w' mb n f := hM.same (h.block mb hM.inside hne hne)
theorem put_trip {w : World} {g : Nat} {t : TypeId} {x0 x1 x2 x3 x4 x5 x6 x7 x8 x9 x10 x11 y9 y10 y11 : Value} (h : At w g t #[x0, x1, x2, x3, x4, x5, x6, x7, x8, x9, x10, x11]) :
 At (((w.setCell ⟨g, 9, none⟩ y9).setCell ⟨g, 10, none⟩ y10).setCell ⟨g, 11, none⟩ y11) g t #[x0, x1, x2, x3, x4, x5, x6, x7, x8, y9, y10, y11] := by
 simpa using ((h.put 9 y9).put 10 y10).put 11 y11
theorem dist_bd (a b : Int × Int) : 0 ≤ distV a b ∧ distV a b ≤ 100000 := by
 unfold distV
 split
 · rename_i h
   rw [Bool.and_eq_true] at h
   have h1 := (mayB_iff _).1 h.1
   have h2 := (mayB_iff _).1 h.2
   unfold gap
   omega
 · omega
set_option maxRecDepth 100000 in
set_option maxHeartbeats 4000000 in
theorem passN (hx hy cp st en ld px py now s1 s2 : Int) (vt mv : Value) (n g B k L : Nat) (P : Pace) (t : List Rq) (x : Vi) (w : World) (hin : ∀ args w, (callFunc n args).run Tryz.prog w = .ok (.enter n args) w) (hv : visO t (s1, s2) = some x) (hok : OkVi x)
 (hnow : 0 ≤ now ∧ now ≤ 500000000) (hk : k < L) (hP : PaceC n #[] L w B P)
 (hg : At w g 182 #[.int .i64 hx, .int .i64 hy, .int .i64 cp, .int .i64 st, .int .i64 en, vt, .func (.func n) #[] #[], mv, .int .i64 ld, .int .i64 px, .int .i64 py, .int .i64 now]) (hB : B ≤ w.heap.size) (hBg : B ≤ g) (hT : Rqs B w vt t) :
 Calls Tryz.prog 121 #[.pointer (some ⟨g, 0, none⟩), .int .i64 (k : Int), .agg #[.int .i64 s1, .int .i64 s2]] w fun e w' =>
  e = .returned (.bool (P k x (now + distV (px, py) (x.px, x.py))).2) ∧
   At w' g 182 #[.int .i64 hx, .int .i64 hy, .int .i64 cp, .int .i64 st, .int .i64 en, vt, .func (.func n) #[] #[], mv, .int .i64 ld, .int .i64 x.px, .int .i64 x.py, .int .i64 (P k x (now + distV (px, py) (x.px, x.py))).1] ∧ Two g g w w' := by
 obtain ⟨D, hD⟩ : ∃ D, distV (px, py) (x.px, x.py) = D := ⟨_, rfl⟩
 have cD : ∀ W, Calls Tryz.prog 99 #[.agg #[.int .i64 px, .int .i64 py], .agg #[.int .i64 x.px, .int .i64 x.py]] W fun e w' => e = .returned (.int .i64 D) ∧ Below W.heap.size W w' := fun W => by rw [← hD]; exact Dist_any _ _ _ _ W
 have hDb : 0 ≤ D ∧ D ≤ 100000 := by rw [← hD]; exact dist_bd _ _
 obtain ⟨hD1, hD2⟩ := hDb
 obtain ⟨hn1, hn2⟩ := hnow
 have hnD1 : 0 ≤ now + D := by omega
 have hnD2 : now + D ≤ 1000000000 := by omega
 have hPY := fun W (hW : Below B w W) => hP W hW k x (now + D) hk hok hnD1 hnD2
 rw [hD]
 generalize P k x (now + D) = Y at *
 simp only [Array.append_empty] at hPY
 clear hD hP
 obtain ⟨m, hmq⟩ : ∃ m, w.heap.size = m := ⟨_, rfl⟩
 obtain ⟨w1, hw1⟩ : ∃ w1, w.alloc (.cells #[.int .i64 s1, .int .i64 s2] 82) = w1 := ⟨_, rfl⟩
 have hS : At w1 m 82 #[.int .i64 s1, .int .i64 s2] := by rw [← hw1]; exact At.new_ _ _ _ hmq.symm
 have hG : At w1 g 182 #[.int .i64 hx, .int .i64 hy, .int .i64 cp, .int .i64 st, .int .i64 en, vt, .func (.func n) #[] #[], mv, .int .i64 ld, .int .i64 px, .int .i64 py, .int .i64 now] := by rw [← hw1]; exact hg.alloc _
 have hb1 : Below w.heap.size w w1 := by rw [← hw1]; exact (Below.refl _ _).alloc (Nat.le_refl _) _
 have hT1 := hT.keep hb1 hB
 have hP1 := Lib.hid (fun W (hW : Below B w1 W) => hPY W ((hb1.mono hB).trans hW))
 have hTw : Two g g w w1 := .of_below hb1
 have hgi := hg.inside
 have hgne : g ≠ m := by omega
 have hB1 : B ≤ w1.heap.size := by have := hb1.size; omega
 have hs1 : w1.heap.size = m + 1 := by rw [← hw1]; simp [hmq]
 have hs1' := Lib.hid hs1
 have cV : ∀ W, Below w1.heap.size w1 W → Calls Tryz.prog 125 #[.pointer (some ⟨g, 0, none⟩), .agg #[.int .i64 s1, .int .i64 s2]] W fun e w' =>
  e = .returned (.agg #[.int .i64 x.px, .int .i64 x.py, .int .i64 x.we, .int .i64 x.wl, .int .i64 x.sv]) ∧ Below W.heap.size W w' := fun W hW =>
  visit_any hx hy cp st en ld px py now s1 s2 _ mv vt g B t x W hv (hG.keep hW hG.inside) (by have := hW.size; omega) (hT1.keep hW hB1)
 have hw1' := Lib.hid hw1
 have hmq' := Lib.hid hmq
 have hgm : g < m := by omega
 clear hg hT hw1 hmq hv hb1 hPY hT1 hgi hB hs1
 go_enter Tryz.func121, Tryz.ntmps121
 go_wp2_with fail
 rw [hw1'.out]
 simp only [hmq'.out]
 refine (cV w1 (Below.refl _ _)).mono ?_
 rintro e w2 ⟨rfl, hb2⟩
 have hG2 := hG.keep hb2 hG.inside
 have hTw2 := hTw.on hb2
 have hP2 := Lib.hid (fun W (hW : Below B w2 W) => hP1.out W ((hb2.mono hB1).trans hW))
 obtain ⟨gn, hgn⟩ : ∃ gn, w2.heap.size = gn := ⟨_, rfl⟩
 obtain ⟨w3, hw3⟩ : ∃ w3, w2.alloc (.cells #[.int .i64 x.px, .int .i64 x.py, .int .i64 x.we, .int .i64 x.wl, .int .i64 x.sv] 187) = w3 := ⟨_, rfl⟩
 have hG3 := hG2.alloc (.cells #[.int .i64 x.px, .int .i64 x.py, .int .i64 x.we, .int .i64 x.wl, .int .i64 x.sv] 187)
 rw [hw3] at hG3
 have hX3 : At w3 gn 187 #[.int .i64 x.px, .int .i64 x.py, .int .i64 x.we, .int .i64 x.wl, .int .i64 x.sv] := by rw [← hw3]; exact At.new_ _ _ _ hgn.symm
 have hb3 : Below w2.heap.size w2 w3 := by rw [← hw3]; exact (Below.refl _ _).alloc (Nat.le_refl _) _
 have hTw3 := hTw2.on hb3
 have hP3 := Lib.hid (fun W (hW : Below B w3 W) => hP2.out W ((hb3.mono (by have := hb2.size; omega)).trans hW))
 have hw3' := Lib.hid hw3
 have hgn' := Lib.hid hgn
 clear hw3 hb2 hb3 hG hS hG2 hP1 hP2 hTw hTw2 cV hgn
 go_upto_region 2 with fail
 simp only [hgn'.out]
 rw [hw3'.out]
 have cP := fun W (hW : Below w3.heap.size w3 W) => hP3.out W (hW.mono (by have := hG3.inside; omega))
 have g6 := hG3.cell 6
 have g9 := hG3.cell 9
 have g10 := hG3.cell 10
 have g11 := hG3.cell 11
 have x0 := hX3.cell 0
 have x1 := hX3.cell 1
 have x2 := hX3.cell 2
 have x3 := hX3.cell 3
 have x4 := hX3.cell 4
 simp at g6 g9 g10 g11 x0 x1 x2 x3 x4
 have kg6 := cell_regrown g6
 have kg9 := cell_regrown g9
 have kg10 := cell_regrown g10
 have kg11 := cell_regrown g11
 have kx0 := cell_regrown x0
 have kx1 := cell_regrown x1
 have kx2 := cell_regrown x2
 have kx3 := cell_regrown x3
 have kx4 := cell_regrown x4
 have kD := fun d os => Calls.regrown_of (cD (grow (redrawn w3 d) os))
 have kP := fun d os => Calls.regrown_of (cP (grow (redrawn w3 d) os) (below_regrown w3 d os))
 refine wp_region_quiet_below (by kernel_rfl) (by kernel_rfl) ?_
 repeat (go_big_quiet_step (first | with_reducible exact kD _ _ | with_reducible exact kP _ _))
 refine wpQuiet_nil ?_
 intro _ hw'
 obtain ⟨⟨dq, osq⟩, hw''⟩ := hw'
 subst hw''
 have hb4 := below_regrown w3 dq osq
 have hG4 := hG3.keep hb4 hG3.inside
 have hX4 := hX3.keep hb4 hX3.inside
 have hTw4 := hTw3.on hb4
 clear kg6 kg9 kg10 kg11 kx0 kx1 kx2 kx3 kx4 kD kP cD cP g6 g9 g10 g11 x0 x1 x2 x3 x4 hG3 hX3 hTw3 hb4
 generalize grow (redrawn w3 dq) osq = w4 at *
 have x0 := hX4.cell 0
 have x1 := hX4.cell 1
 have g9 := hG4.cell 9
 have g10 := hG4.cell 10
 have g11 := hG4.cell 11
 have gf := hG4.free
 simp at g9 g10 g11 x0 x1
 go_wp2
 go_ret
 exact ⟨rfl, put_trip hG4, ((hTw4.trans (.setG _ _ _ _ _)).trans (.setG _ _ _ _ _)).trans (.setG _ _ _ _ _)⟩
def PassC (kv : Value) (L B : Nat) (w : World) (P : Pace) : Prop := ∀ W, Below B w W → ∀ (hx hy cp st en ld px py now s1 s2 : Int) (vt mv : Value) (g k : Nat) (t : List Rq) (x : Vi), visO t (s1, s2) = some x → OkVi x → 0 ≤ now ∧ now ≤ 500000000 → k < L →
 At W g 182 #[.int .i64 hx, .int .i64 hy, .int .i64 cp, .int .i64 st, .int .i64 en, vt, kv, mv, .int .i64 ld, .int .i64 px, .int .i64 py, .int .i64 now] → B ≤ W.heap.size → B ≤ g → Rqs B W vt t →
 Calls Tryz.prog 121 #[.pointer (some ⟨g, 0, none⟩), .int .i64 (k : Int), .agg #[.int .i64 s1, .int .i64 s2]] W fun e w' =>
  e = .returned (.bool (P k x (now + distV (px, py) (x.px, x.py))).2) ∧
   At w' g 182 #[.int .i64 hx, .int .i64 hy, .int .i64 cp, .int .i64 st, .int .i64 en, vt, kv, mv, .int .i64 ld, .int .i64 x.px, .int .i64 x.py, .int .i64 (P k x (now + distV (px, py) (x.px, x.py))).1] ∧ Two g g W w'
theorem PassC.on {kv : Value} {L B : Nat} {w w1 : World} {P : Pace} (h : PassC kv L B w P) (hb : Below B w w1) : PassC kv L B w1 P := fun W hW => h W (hb.trans hW)
theorem PassC.ofN {n L B : Nat} {w : World} {P : Pace} (hin : ∀ args w, (callFunc n args).run Tryz.prog w = .ok (.enter n args) w) (h : PaceC n #[] L w B P) : PassC (.func (.func n) #[] #[]) L B w P :=
 fun W hW hx hy cp st en ld px py now s1 s2 vt mv g k t x hv hok hnow hk hg hB hBg hT => passN hx hy cp st en ld px py now s1 s2 vt mv n g B k L P t x W hin hv hok hnow hk (h.on hW) hg hB hBg hT
theorem vis_ok {t : List Rq} (ht : ∀ q ∈ t, q.chk = 0) {s : Int × Int} {x : Vi} (h : visO t s = some x) : OkVi x := by
 obtain ⟨q, hq, _, _, _, hk⟩ := visO_some h
 have hc := ht q (List.mem_of_getElem? hq)
 unfold Rq.chk at hc
 obtain ⟨_, ⟨h1, h2⟩, _, h4, h5⟩ := (Order.chk_iff ..).1 hc
 have h1 := (Window.okB_iff _ _).1 h1
 have h2 := (Window.okB_iff _ _).1 h2
 rcases hk with ⟨_, rfl⟩ | ⟨_, rfl⟩
 · exact ⟨by show 0 ≤ q.pe; omega, by show q.pe ≤ q.pl; omega, by show q.pl ≤ _; omega, h4, h5⟩
 · exact ⟨by show 0 ≤ q.de; omega, by show q.de ≤ q.dl; omega, by show q.dl ≤ _; omega, h4, h5⟩
theorem stB_vis {t : List Rq} {pre : List (Int × Int)} {s : Int × Int} (h : stB t pre s = true) : ∃ x, visO t s = some x ∧ visV t s = x := by
 obtain ⟨⟨h1, h2⟩, h3, _⟩ := stB_iff.1 h
 have hi : inT t s.1 = true := by simp only [inT, Bool.and_eq_true, decide_eq_true_eq]; omega
 obtain ⟨q, hq, _⟩ := inT_get hi
 rcases h3 with h3 | h3
 · have := visO_pick hi hq h3
   exact ⟨_, this, (vis_some this).1⟩
 · have := visO_drop hi hq h3
   exact ⟨_, this, (vis_some this).1⟩
theorem chk_ld {t : List Rq} (ht : ∀ q ∈ t, q.chk = 0) : ∀ q ∈ t, 1 ≤ q.ld ∧ q.ld ≤ 1000 := fun q hq => by
 have := ht q hq
 unfold Rq.chk at this
 exact ((Order.chk_iff ..).1 this).2.2.1
section
variable {v : Vh} {t : List Rq} {P : Pace} {pre : List (Int × Int)} {a : Sp} {s : Int × Int}
theorem srv_count (h : 16 ≤ pre.length) : srvV v t P pre a s = 11 := by unfold srvV; rw [if_pos h]
theorem srv_stop (h : ¬ 16 ≤ pre.length) (h2 : stB t pre s = false) : srvV v t P pre a s = 8 := by unfold srvV; rw [if_neg h, if_pos h2]
theorem srv_full (h : ¬ 16 ≤ pre.length) (h2 : stB t pre s = true) (h3 : v.cp < acc t (pre ++ [s])) : srvV v t P pre a s = 10 := by unfold srvV; rw [if_neg h, if_neg (by simp [h2]), if_pos h3]
theorem srv_late (h : ¬ 16 ≤ pre.length) (h2 : stB t pre s = true) (h3 : ¬ v.cp < acc t (pre ++ [s])) (h4 : (P pre.length (visV t s) (arV a (visV t s))).2 = false) : srvV v t P pre a s = 9 := by unfold srvV; rw [if_neg h, if_neg (by simp [h2]), if_neg h3, if_pos h4]
theorem srv_ok (h : ¬ 16 ≤ pre.length) (h2 : stB t pre s = true) (h3 : ¬ v.cp < acc t (pre ++ [s])) (h4 : (P pre.length (visV t s) (arV a (visV t s))).2 = true) : srvV v t P pre a s = 0 := by unfold srvV; rw [if_neg h, if_neg (by simp [h2]), if_neg h3, if_neg (by simp [h4])]
end
theorem ret_err {a b : Int} (h : a = b) : Ending.returned (.int .i64 a) = .returned (.int .i64 b) := by rw [h]
set_option maxRecDepth 100000 in
set_option maxHeartbeats 4000000 in
theorem serve_any (v : Vh) (vt kv : Value) (g mb n B L : Nat) (P : Pace) (t : List Rq) (pre : List (Int × Int)) (a : Sp) (s1 s2 : Int) (w : World) (hn : n < 1000000) (hpl : pre.length < L) (hpl2 : pre.length ≤ 1000000000) (hI : I64 s1) (hacc : -100000000 ≤ acc t pre ∧ acc t pre ≤ 100000000) (hq : ∀ q ∈ t, q.chk = 0) (hnow : 0 ≤ a.now ∧ a.now ≤ 500000000)
 (hg : At w g 182 #[.int .i64 v.hx, .int .i64 v.hy, .int .i64 v.cp, .int .i64 v.st, .int .i64 v.en, vt, kv, .map (some mb), .int .i64 (acc t pre), .int .i64 a.px, .int .i64 a.py, .int .i64 a.now]) (hm : FateAt w mb n (fateF pre)) (hT : Rqs B w vt t) (hB : B ≤ w.heap.size) (hBg : B ≤ g ∧ B ≤ mb) (hP : PassC kv L B w P) :
 Calls Tryz.prog 108 #[.pointer (some ⟨g, 0, none⟩), .int .i64 (pre.length : Nat), .agg #[.int .i64 s1, .int .i64 s2]] w fun e w' =>
  e = .returned (.int .i64 (srvV v t P pre a (s1, s2))) ∧ (srvV v t P pre a (s1, s2) = 0 → At w' g 182 #[.int .i64 v.hx, .int .i64 v.hy, .int .i64 v.cp, .int .i64 v.st, .int .i64 v.en, vt, kv, .map (some mb), .int .i64 (acc t (pre ++ [(s1, s2)])), .int .i64 (goP P pre.length a (visV t (s1, s2))).px, .int .i64 (goP P pre.length a (visV t (s1, s2))).py, .int .i64 (goP P pre.length a (visV t (s1, s2))).now] ∧ FateAt w' mb (n + 1) (fateF (pre ++ [(s1, s2)]))) ∧ Two g mb w w' := by
 have hgm : mb ≠ g := hm.no_cells hg
 have hgi := hg.inside
 have hmi := hm.inside
 obtain ⟨m, hmq⟩ : ∃ m, w.heap.size = m := ⟨_, rfl⟩
 obtain ⟨w1, hw1⟩ : ∃ w1, w.alloc (.cells #[.int .i64 s1, .int .i64 s2] 82) = w1 := ⟨_, rfl⟩
 have hS : At w1 m 82 #[.int .i64 s1, .int .i64 s2] := by rw [← hw1]; exact At.new_ _ _ _ hmq.symm
 have hG : At w1 g 182 #[.int .i64 v.hx, .int .i64 v.hy, .int .i64 v.cp, .int .i64 v.st, .int .i64 v.en, vt, kv, .map (some mb), .int .i64 (acc t pre), .int .i64 a.px, .int .i64 a.py, .int .i64 a.now] := by rw [← hw1]; exact hg.alloc _
 have hM : FateAt w1 mb n (fateF pre) := by rw [← hw1]; exact hm.alloc _
 have hb1 : Below w.heap.size w w1 := by rw [← hw1]; exact (Below.refl _ _).alloc (Nat.le_refl _) _
 have hT1 := hT.keep hb1 hB
 have hTw : Two g mb w w1 := .of_below hb1
 have hP1 := Lib.hid (hP.on (hb1.mono hB))
 have hB1 : B ≤ w1.heap.size := by have := hb1.size; omega
 have hT1' := Lib.hid hT
 have hBm : B ≤ m := by omega
 have hw1' := Lib.hid hw1
 have hmq' := Lib.hid hmq
 have hgne : g ≠ m := by omega
 have hmne : mb ≠ m := by omega
 have htk := take_any v.hx v.hy v.cp v.st v.en a.px a.py a.now vt kv g mb n B t pre s1 s2 w1 hn hI (by omega) (chk_ld hq) hG hM hT1 hB1 hBg
 obtain ⟨K, hK⟩ : ∃ K : Nat, pre.length = K := ⟨_, rfl⟩
 have hK' := Lib.hid hK
 rw [hK] at hpl hpl2 ⊢
 have hnow' := Lib.hid hnow
 have hq' := Lib.hid hq
 have hacc2 : -200000000 ≤ acc t (pre ++ [(s1, s2)]) ∧ acc t (pre ++ [(s1, s2)]) ≤ 200000000 ∨ stB t pre (s1, s2) = false := by
  cases hs : stB t pre (s1, s2)
  · exact .inr rfl
  · left
    obtain ⟨x, hx, _⟩ := stB_vis hs
    obtain ⟨q, hqq, _⟩ := visO_some hx
    have h1 := chk_ld hq q (List.mem_of_getElem? hqq)
    rw [acc_snoc]
    simp only [stN]
    rw [ldR_get hqq]
    unfold sg
    split <;> omega
 have hacc2' := Lib.hid hacc2
 clear hg hm hT hw1 hmq hb1 hP hT1 hgi hmi hB hK hnow hq hacc hacc2 hM hI
 cases d0 : decide (16 ≤ (K : Int))
 case true =>
  have hF := Lib.hid (srv_count (v := v) (t := t) (P := P) (pre := pre) (a := a) (s := (s1, s2)) (by have := of_decide_eq_true d0; have := hK'.out; omega))
  clear htk
  go_enter Tryz.func108, Tryz.ntmps108
  go_wp2_with fail
  rw [hw1'.out]
  go_wp2
  go_ret
  exact ⟨ret_err hF.out.symm, fun h => (by rw [hF.out] at h; cases h), hTw⟩
 case false =>
 have hk16 := Lib.hid (show ¬ 16 ≤ pre.length by have := of_decide_eq_false d0; have := hK'.out; omega)
 have s0 := hS.cell 0
 have s1' := hS.cell 1
 simp at s0 s1'
 go_enter Tryz.func108, Tryz.ntmps108
 go_wp2_with fail
 simp only [hmq'.out]
 rw [hw1'.out]
 refine htk.mono ?_
 clear htk s0 s1'
 rintro e w2 ⟨rfl, hyes, hTw2⟩
 have hS2 := At.two hS hTw2 hgne.symm hmne.symm
 have hTT := hTw.trans hTw2
 cases hst : stB t pre (s1, s2)
 case false =>
  have hF := Lib.hid (srv_stop (v := v) (t := t) (P := P) (pre := pre) (a := a) (s := (s1, s2)) hk16.out hst)
  clear hyes
  go_wp2
  go_ret
  exact ⟨ret_err hF.out.symm, fun h => (by rw [hF.out] at h; cases h), hTT⟩
 case true =>
 obtain ⟨hG2, hM2⟩ := hyes hst
 have hst' := Lib.hid hst
 have hP2 := Lib.hid (hP1.out.on (hTw2.below hBg.1 hBg.2 hB1))
 clear hyes hst hS hG hTw hP1
 have hB2 : B ≤ w2.heap.size := by have := hTw2.size; omega
 clear hTw2
 obtain ⟨A, hA⟩ : ∃ A, acc t (pre ++ [(s1, s2)]) = A := ⟨_, rfl⟩
 rw [hA] at hG2
 have hA' := Lib.hid hA
 clear hA
 have g8 := hG2.cell 8
 have g2 := hG2.cell 2
 simp at g8 g2
 go_upto_region 5 with fail
 cases d2 : decide (v.cp < A)
 case true =>
  have hF := Lib.hid (srv_full (v := v) (t := t) (P := P) (pre := pre) (a := a) (s := (s1, s2)) hk16.out hst'.out (by rw [hA'.out]; exact of_decide_eq_true d2))
  go_quiet (fail)
  go_wp2
  go_ret
  exact ⟨ret_err hF.out.symm, fun h => (by rw [hF.out] at h; cases h), hTT.on (below_drewN (Below.refl _ _) nq)⟩
 case false =>
 have hnf := Lib.hid (show ¬ v.cp < acc t (pre ++ [(s1, s2)]) by rw [hA'.out]; exact of_decide_eq_false d2)
 go_quiet (fail)
 have hG3 := hG2.drewN nq
 have hS3 := hS2.drewN nq
 have hM3 : FateAt (w2.drewN nq) mb (n + 1) (fateF (pre ++ [(s1, s2)])) := hM2.same rfl
 have hb3 := below_drewN (Below.refl w2.heap.size w2) nq
 have hTT3 := hTT.on hb3
 have hP3 := Lib.hid (hP2.out.on (hb3.mono hB2))
 have hB3 : B ≤ (w2.drewN nq).heap.size := hB2
 clear hG2 hS2 hM2 hTT hP2 hb3 hB2 g8 g2
 generalize w2.drewN nq = w3 at *
 obtain ⟨x, hx, hvx⟩ := stB_vis hst'.out
 have hps := hP3.out w3 (Below.refl _ _) v.hx v.hy v.cp v.st v.en A a.px a.py a.now s1 s2 vt (.map (some mb)) g K t x hx (vis_ok hq'.out hx) hnow'.out hpl hG3 hB3 hBg.1
 have hTr : Rqs B w3 vt t := hT1'.out.keep (hTT3.below hBg.1 hBg.2 (by rw [hmq'.out]; exact hBm)) (Nat.le_refl _)
 replace hps := hps hTr
 have hvx' := Lib.hid hvx
 obtain ⟨b, hb⟩ : ∃ b, (P K x (a.now + distV (a.px, a.py) (x.px, x.py))).2 = b := ⟨_, rfl⟩
 obtain ⟨lv, hlv⟩ : ∃ lv, (P K x (a.now + distV (a.px, a.py) (x.px, x.py))).1 = lv := ⟨_, rfl⟩
 rw [hb, hlv] at hps
 have hgo : Hid (goP P K a (visV t (s1, s2)) = ⟨lv, x.px, x.py⟩) := Lib.hid (by unfold goP arV; rw [hvx, hlv])
 have hbb : Hid ((P pre.length (visV t (s1, s2)) (arV a (visV t (s1, s2)))).2 = b) := Lib.hid (by unfold arV; rw [hvx, hK'.out, hb])
 clear hx hvx hb hlv hTr
 have s0 := hS3.cell 0
 have s1' := hS3.cell 1
 simp at s0 s1'
 go_wp2_with fail
 refine hps.mono ?_
 clear hps
 rintro e w4 ⟨rfl, hG4, hT4⟩
 have hM4 := hT4.fate hM3 hgm
 have hTT4 := hTT3.trans hT4.weak
 clear s0 s1' hG3 hS3 hM3 hTT3 hT4
 cases b
 case false =>
  have hF := Lib.hid (srv_late (v := v) hk16.out hst'.out (by have := hnf.out; omega) hbb.out)
  go_wp2
  go_ret
  exact ⟨ret_err hF.out.symm, fun h => (by rw [hF.out] at h; cases h), hTT4⟩
 case true =>
  have hF := Lib.hid (srv_ok (v := v) hk16.out hst'.out (by have := hnf.out; omega) hbb.out)
  go_wp2
  go_ret
  exact ⟨ret_err hF.out.symm, fun _ => ⟨by rw [hgo.out, hA'.out]; exact hG4, hM4⟩, hTT4⟩
theorem home_stop {v : Vh} {t : List Rq} {l : List (Int × Int)} {a : Sp} (h : 0 < acc t l) : homeE v t l a = 8 := by unfold homeE; rw [if_pos h]
theorem home_late {v : Vh} {t : List Rq} {l : List (Int × Int)} {a : Sp} (h : ¬ 0 < acc t l) (h2 : v.en < arV a (homeV v)) : homeE v t l a = 9 := by unfold homeE; rw [if_neg h, if_pos h2]
theorem home_ok {v : Vh} {t : List Rq} {l : List (Int × Int)} {a : Sp} (h : ¬ 0 < acc t l) (h2 : ¬ v.en < arV a (homeV v)) : homeE v t l a = 0 := by unfold homeE; rw [if_neg h, if_neg h2]
set_option maxRecDepth 100000 in
set_option maxHeartbeats 4000000 in
theorem home_any (v : Vh) (vt kv mv : Value) (g : Nat) (t : List Rq) (l : List (Int × Int)) (a : Sp) (w : World) (hnow : 0 ≤ a.now ∧ a.now ≤ 500000000)
 (hg : At w g 182 #[.int .i64 v.hx, .int .i64 v.hy, .int .i64 v.cp, .int .i64 v.st, .int .i64 v.en, vt, kv, mv, .int .i64 (acc t l), .int .i64 a.px, .int .i64 a.py, .int .i64 a.now]) :
 Calls Tryz.prog 95 #[.pointer (some ⟨g, 0, none⟩)] w fun e w' => e = .returned (.int .i64 (homeE v t l a)) ∧ Below w.heap.size w w' := by
 obtain ⟨A, hA⟩ : ∃ A, acc t l = A := ⟨_, rfl⟩
 rw [hA] at hg
 have hA' := Lib.hid hA
 clear hA
 obtain ⟨hn1, hn2⟩ := hnow
 cases d0 : decide (0 < A)
 case true =>
  have hF := Lib.hid (home_stop (v := v) (t := t) (l := l) (a := a) (by rw [hA'.out]; exact of_decide_eq_true d0))
  have g8 := hg.cell 8
  simp at g8
  go_enter Tryz.func95, Tryz.ntmps95
  go_wp2
  go_ret
  exact ⟨ret_err hF.out.symm, Below.refl _ _⟩
 case false =>
 obtain ⟨D, hD⟩ : ∃ D, distV (a.px, a.py) (v.hx, v.hy) = D := ⟨_, rfl⟩
 have cD : ∀ W, Calls Tryz.prog 99 #[.agg #[.int .i64 a.px, .int .i64 a.py], .agg #[.int .i64 v.hx, .int .i64 v.hy]] W fun e w' => e = .returned (.int .i64 D) ∧ Below W.heap.size W w' := fun W => by rw [← hD]; exact Dist_any _ _ _ _ W
 have hDb : 0 ≤ D ∧ D ≤ 100000 := by rw [← hD]; exact dist_bd _ _
 obtain ⟨hD1, hD2⟩ := hDb
 have har : Hid (arV a (homeV v) = a.now + D) := Lib.hid (by unfold arV homeV; rw [hD])
 clear hD
 have hnA := Lib.hid (show ¬ 0 < acc t l by rw [hA'.out]; exact of_decide_eq_false d0)
 have g0 := hg.cell 0
 have g1 := hg.cell 1
 have g4 := hg.cell 4
 have g8 := hg.cell 8
 have g9 := hg.cell 9
 have g10 := hg.cell 10
 have g11 := hg.cell 11
 simp at g0 g1 g4 g8 g9 g10 g11
 have kg0 := cell_regrown g0
 have kg1 := cell_regrown g1
 have kg4 := cell_regrown g4
 have kg9 := cell_regrown g9
 have kg10 := cell_regrown g10
 have kg11 := cell_regrown g11
 have kD := fun d os => Calls.regrown_of (cD (grow (redrawn w d) os))
 clear hg
 go_enter Tryz.func95, Tryz.ntmps95
 go_upto_region 3 with fail
 cases d2 : decide (v.en < a.now + D)
 case true =>
  have hF := Lib.hid (home_late (v := v) (t := t) (l := l) (a := a) hnA.out (by rw [har.out]; exact of_decide_eq_true d2))
  refine wp_region_quiet_below (by kernel_rfl) (by kernel_rfl) ?_
  repeat (go_big_quiet_step (with_reducible exact kD _ _))
  refine wpQuiet_nil ?_
  intro _ hw'
  obtain ⟨⟨dq, osq⟩, hw''⟩ := hw'
  subst hw''
  go_wp2
  go_ret
  exact ⟨ret_err hF.out.symm, below_regrown w dq osq⟩
 case false =>
  have hF := Lib.hid (home_ok (v := v) (t := t) (l := l) (a := a) hnA.out (by rw [har.out]; exact of_decide_eq_false d2))
  refine wp_region_quiet_below (by kernel_rfl) (by kernel_rfl) ?_
  repeat (go_big_quiet_step (with_reducible exact kD _ _))
  refine wpQuiet_nil ?_
  intro _ hw'
  obtain ⟨⟨dq, osq⟩, hw''⟩ := hw'
  subst hw''
  go_wp2
  go_ret
  exact ⟨ret_err hF.out.symm, below_regrown w dq osq⟩
end Go.Proofs.YteclpblfleakhaaGreatDoor.Feas
namespace Go.Proofs.YteclpblfleakhaaGreatDoor.Feas
open Go.Proofs.YteclpblfleakhaaGreatDoor.Order Go.Proofs.YteclpblfleakhaaGreatDoor.Place Go.Proofs.YteclpblfleakhaaGreatDoor.Route Go.Proofs.YteclpblfleakhaaGreatDoor.When Go.Proofs.YteclpblfleakhaaGreatDoor.Load Go.Proofs.YteclpblfleakhaaGreatDoor.Window
set_option linter.unusedVariables false
structure Dr (v : Vh) (l : List (Int × Int)) (t : List Rq) : Prop where
 hv : v.chk = 0
 ht : ∀ q ∈ t, q.chk = 0
 hl : isR l = true
 hn : l.length ≤ 16
 hr : InR t l
theorem Dr.vis {v : Vh} {l : List (Int × Int)} {t : List Rq} (h : Dr v l t) {s : Int × Int} (hs : s ∈ l) : ∃ x, visO t s = some x ∧ OkVi x ∧ visV t s = x := by
 obtain ⟨p, q, e⟩ := List.append_of_mem hs
 obtain ⟨⟨h1, h2⟩, h3, _⟩ := stB_iff.1 (route_stB h.hl h.hr e)
 have hi : inT t s.1 = true := by simp [inT, h1, h2]
 obtain ⟨z, hz, _⟩ := inT_get hi
 have : ∃ x, visO t s = some x := by
  rcases h3 with h3 | h3
  · exact ⟨_, visO_pick hi hz h3⟩
  · exact ⟨_, visO_drop hi hz h3⟩
 obtain ⟨x, hx⟩ := this
 exact ⟨x, hx, vis_ok h.ht hx, by simp [visV, hx]⟩
theorem Dr.visL {v : Vh} {l : List (Int × Int)} {t : List Rq} (h : Dr v l t) : ∀ x ∈ visL t l, OkVi x := by
 intro x hx
 obtain ⟨s, hs, rfl⟩ := List.mem_map.1 hx
 obtain ⟨x, _, h2, h3⟩ := h.vis hs
 rw [h3]
 exact h2
theorem Dr.wrong {v : Vh} {l : List (Int × Int)} {t : List Rq} (h : Dr v l t) : wrongV v l t = 0 := by
 unfold wrongV
 rw [if_neg (by have := h.hv; omega), if_neg, if_neg, if_neg]
 · intro e
   obtain ⟨s, hs, e⟩ := List.any_eq_true.1 e
   obtain ⟨x, h1, _⟩ := h.vis hs
   simp [visB, h1] at e
 · rw [Classical.not_not]
   unfold checkV
   rw [if_neg (by have := h.hn; omega), if_pos h.hl]
 · intro e
   obtain ⟨q, hq, e⟩ := List.any_eq_true.1 e
   have := h.ht q hq
   simp [this] at e
theorem Dr.errT {v : Vh} {l : List (Int × Int)} {t : List Rq} (h : Dr v l t) : errT v l t = if okT v l t then 0 else 9 := by
 unfold When.errT
 rw [if_neg (by have := h.wrong; omega)]
theorem wait_ok {x : Vi} (h : OkVi x) (n : Int) : waitB x.we x.wl n = decide (n ≤ x.wl) := by
 obtain ⟨h1, h2, h3, _⟩ := h
 have : okB x.we x.wl = true := by simp [okB]; omega
 unfold waitB hasB
 rw [this, Bool.true_and, Bool.eq_iff_iff]
 simp
 omega
theorem early_sched : ∀ {xs : List Vi} {a : Sp}, (∀ x ∈ xs, OkVi x) → (allB a xs = true → earlyL a xs = some (endA a xs) ∧ earlyT a xs = tmsL (stepsL a xs)) ∧ (allB a xs = false → earlyL a xs = none)
 | [], a, _ => ⟨fun _ => ⟨rfl, rfl⟩, fun h => by simp [allB, stepsL] at h⟩
 | x :: xs, a, hx => by
  have h1 := hx x (List.mem_cons_self ..)
  obtain ⟨i1, i2⟩ := early_sched (xs := xs) (a := goV a x) fun z hz => hx z (List.mem_cons_of_mem _ hz)
  have e : allB a (x :: xs) = (decide (arV a x ≤ x.wl) && allB (goV a x) xs) := by
   unfold allB
   rw [stepsL, List.all_cons]
   rw [show good (a, x) = decide (arV a x ≤ x.wl) from wait_ok h1 _]
  rw [e]
  by_cases hk : arV a x ≤ x.wl
  · have hw : waitV x.we x.wl (arV a x) = max (arV a x) x.we := by
     have hwb : waitB x.we x.wl (arV a x) = true := by rw [wait_ok h1, decide_eq_true hk]
     unfold waitV; rw [hwb, orNil_t]
    have hg : (⟨max (arV a x) x.we + x.sv, x.px, x.py⟩ : Sp) = goV a x := by unfold goV beV; rw [hw]
    have ht : (⟨arV a x, max (arV a x) x.we, max (arV a x) x.we + x.sv⟩ : Tm) = tmV a x := by unfold tmV beV; rw [hw]
    rw [decide_eq_true hk, Bool.true_and, earlyL, if_pos hk, earlyT, hg, ht]
    refine ⟨fun h => ⟨(i1 h).1, ?_⟩, i2⟩
    rw [(i1 h).2]
    rfl
  · rw [decide_eq_false hk, earlyL, if_neg hk]
    exact ⟨(fun h => by cases h), fun _ => rfl⟩
theorem Dr.fault {v : Vh} {l : List (Int × Int)} {t : List Rq} (h : Dr v l t) : (faultV v l t).1 = 0 ↔ boardB v.cp t [] l = true ∧ ∃ b, earlyL (sp0 v) (When.visL t l) = some b ∧ arV b (homeV v) ≤ v.en := by
 rw [fault_zero, look_iff h.hv h.ht h.hl h.hn h.hr]
 simp only [run_early]
theorem Dr.right {v : Vh} {l : List (Int × Int)} {t : List Rq} (h : Dr v l t) {ts : List Tm} : rightB v l t ts = true ↔ ts.length = l.length ∧ boardB v.cp t [] l = true ∧ ∃ b, keptL (sp0 v) (When.visL t l) ts = some b ∧ arV b (homeV v) ≤ v.en := by
 rw [right_iff, look_iff h.hv h.ht h.hl h.hn h.hr]
 constructor
 · rintro ⟨h1, h2, h3⟩
   refine ⟨h1, h2, ?_⟩
   rw [run_kept _ _ _ _ (by simp [When.visL, h1])] at h3
   exact h3
 · rintro ⟨h1, h2, h3⟩
   refine ⟨h1, h2, ?_⟩
   rw [run_kept _ _ _ _ (by simp [When.visL, h1])]
   exact h3
theorem Dr.okT {v : Vh} {l : List (Int × Int)} {t : List Rq} (h : Dr v l t) : okT v l t = true ↔ ∃ b, earlyL (sp0 v) (When.visL t l) = some b ∧ arV b (homeV v) ≤ v.en := by
 obtain ⟨h1, h2⟩ := early_sched (a := sp0 v) h.visL
 unfold When.okT
 cases hb : allB (sp0 v) (When.visL t l)
 · rw [h2 hb]
   exact ⟨(fun e => by cases e), fun e => by obtain ⟨b, e, _⟩ := e; cases e⟩
 · rw [(h1 hb).1, Bool.true_and, decide_eq_true_eq]
   unfold endT
   exact ⟨fun e => ⟨_, rfl, e⟩, fun e => by obtain ⟨b, e, e2⟩ := e; cases e; exact e2⟩
end Go.Proofs.YteclpblfleakhaaGreatDoor.Feas

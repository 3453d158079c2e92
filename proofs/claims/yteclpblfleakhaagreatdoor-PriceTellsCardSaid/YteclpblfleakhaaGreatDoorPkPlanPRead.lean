import Derived.Test.YteclpblfleakhaaGreatDoorPkPlanFresh

namespace Go.Proofs.YteclpblfleakhaaGreatDoor.Plan
open Go.RowKit Go.Sort Go.Proofs.YteclpblfleakhaaGreatDoor.Mem Go.Proofs.YteclpblfleakhaaGreatDoor.Route Go.Proofs.YteclpblfleakhaaGreatDoor.When Go.Proofs.YteclpblfleakhaaGreatDoor.Load Go.Proofs.YteclpblfleakhaaGreatDoor.Ins Go.Proofs.YteclpblfleakhaaGreatDoor.Cheap
set_option linter.unusedVariables false
set_option maxHeartbeats 1000000 in
theorem Where_same {D G : Nat → Prop} {p : Nat} {S : St} (r : Int) (w : World) (h : PlanAt D G w p S) (hr : I64 r) :
 Calls Tryz.prog 34 #[.pointer (some ⟨p, 0, none⟩), .int .i64 r] w fun e w' => e = .returned (.int .i64 (whereV S.rows r)) ∧ w' = w := by
 obtain ⟨gt, gm, vt, cap, us, h⟩ := h
 have b2 := h.box.cell 2
 simp at b2
 have hp := h.box.inside
 have hkey := key_lit hr
 obtain ⟨D, hown, hD⟩ := h.map
 obtain ⟨h1, h2⟩ := hD r
 clear hD h
 by_cases hw : 0 ≤ whereV S.rows r
 · rw [whO_some hw] at h1 h2
   have h1' : Maps.has D (.int .i64 r) = true := h1
   have hc := Lib.hid h2
   clear h1 h2 hw
   go_enter Tryz.func34, Tryz.ntmps34
   go_wp2_with (at_lookup; refine wpList_lookup_own_ok_int _ rfl _ _ 76 rfl 3 3 .i64 (Maps.int_keyed Tryz.underlying3) Tryz.underlying76 Tryz.underlying3 (Tryz.zeroValue3 _) gm 1000 D rfl hown _ _ rfl hkey ?_; intro c hat hwc; rw [h1']; have hcc := Lib.hid (lit_inj (hat.symm.trans hc.out)); clear hat hwc)
   go_ret
   exact ⟨Route.ret_int hcc.out, rfl⟩
 · have hn := Lib.hid (where_no (where_neg.1 (by omega : whereV S.rows r < 0)))
   rw [whO_none hw] at h1
   have h1' : Maps.has D (.int .i64 r) = false := h1
   clear h1 h2 hw
   go_enter Tryz.func34, Tryz.ntmps34
   go_wp2_with (at_lookup; refine wpList_lookup_own_ok_int _ rfl _ _ 76 rfl 3 3 .i64 (Maps.int_keyed Tryz.underlying3) Tryz.underlying76 Tryz.underlying3 (Tryz.zeroValue3 _) gm 1000 D rfl hown _ _ rfl hkey ?_; intro c hat hwc; rw [h1']; clear hat hwc)
   go_ret
   exact ⟨Route.ret_int hn.out.symm, rfl⟩
theorem Has_same {D G : Nat → Prop} {p : Nat} {S : St} (r : Int) (w : World) (h : PlanAt D G w p S) (hr : I64 r) :
 Calls Tryz.prog 21 #[.pointer (some ⟨p, 0, none⟩), .int .i64 r] w fun e w' => e = .returned (.bool (decide (0 ≤ whereV S.rows r))) ∧ w' = w := by
 have hW := Where_same r w h hr
 obtain ⟨V, hV⟩ : ∃ V, whereV S.rows r = V := ⟨_, rfl⟩
 rw [hV] at hW ⊢
 clear hV
 go_enter Tryz.func21, Tryz.ntmps21
 go_wp2_with fail
 refine hW.mono ?_
 clear hW
 rintro e w2 ⟨rfl, rfl⟩
 by_cases hV : 0 ≤ V
 · have hd := Lib.hid (show true = decide (0 ≤ V) by simp [hV])
   go_wp2
   go_ret
   exact ⟨by first | rfl | exact Route.ret_bool hd.out, rfl⟩
 · have hd := Lib.hid (show false = decide (0 ≤ V) by simp [hV])
   go_wp2
   go_ret
   exact ⟨by first | rfl | exact Route.ret_bool hd.out, rfl⟩
theorem Has_any {D G : Nat → Prop} {p : Nat} {S : St} (r : Int) (w : World) (h : PlanAt D G w p S) (ho : Ok S) (hr : I64 r := by (first | assumption | (unfold I64; omega))) :
 Calls Tryz.prog 21 #[.pointer (some ⟨p, 0, none⟩), .int .i64 r] w fun e w' => e = .returned (.bool (decide (0 ≤ whereV S.rows r))) ∧ Below w.heap.size w w' :=
 (Has_same r w h hr).mono fun e w' ⟨h1, h2⟩ => ⟨h1, by rw [h2]; exact Below.refl _ _⟩
end Go.Proofs.YteclpblfleakhaaGreatDoor.Plan
namespace Go.Proofs.YteclpblfleakhaaGreatDoor.Cheap
open Go.RowKit Go.Sort Go.Proofs.YteclpblfleakhaaGreatDoor.Mem Go.Proofs.YteclpblfleakhaaGreatDoor.Route Go.Proofs.YteclpblfleakhaaGreatDoor.When Go.Proofs.YteclpblfleakhaaGreatDoor.Load Go.Proofs.YteclpblfleakhaaGreatDoor.Ins Go.Proofs.YteclpblfleakhaaGreatDoor.Up
set_option linter.unusedVariables false
theorem res_way {fn : Func} {p : Tmp} (h : fn.results = #[.cell p 102]) {tmps : Array Value} {w : World} {g : Nat} {x0 x1 x2 : Value} (hp : tmps.getD p undef = .pointer (some ⟨g, 0, none⟩))
 (hA : At w g 102 #[x0, x1, x2]) : (results fn tmps).run Tryz.prog w = .ok (.agg #[x0, x1, x2]) w := by
 have hp' : tmps[p]?.getD undef = .pointer (some ⟨g, 0, none⟩) := by simpa using hp
 have c0 := hA.cell 0
 have c1 := hA.cell 1
 have c2 := hA.cell 2
 simp at c0 c1 c2
 simp only [results, h]
 go_simp
theorem put3 {w : World} {g : Nat} {t : TypeId} {a0 a1 a2 x0 x1 x2 : Value} (h : At w g t #[a0, a1, a2]) :
 At (((w.setCell ⟨g, 0, none⟩ x0).setCell ⟨g, 1, none⟩ x1).setCell ⟨g, 2, none⟩ x2) g t #[x0, x1, x2] := by
 simpa using ((h.put 0 x0).put 1 x1).put 2 x2
theorem ret_way {a b : Wy} (h : a = b) : Ending.returned (.agg (encW a)) = .returned (.agg (encW b)) := by rw [h]
theorem riseOf_any (y : Wy) (w : World) :
 Calls Tryz.prog 57 #[.agg #[.int .i64 y.i, .int .i64 y.j, .int .i64 y.n]] w fun e w' => e = .returned (.int .i64 y.n) ∧ Below w.heap.size w w' := by
 go_enter Tryz.func57, Tryz.ntmps57
 go_wp2
 go_ret
 exact ⟨rfl, (Below.refl _ _).alloc (Nat.le_refl _) _⟩
set_option maxRecDepth 100000 in
set_option maxHeartbeats 4000000 in
theorem lesser_any (a b : Wy) (w : World) :
 Calls Tryz.prog 56 #[.agg #[.int .i64 a.i, .int .i64 a.j, .int .i64 a.n], .agg #[.int .i64 b.i, .int .i64 b.j, .int .i64 b.n], .func (.func 57) #[] #[]] w fun e w' =>
  e = .returned (.agg (encW (lessW a b))) ∧ Below w.heap.size w w' := by
 obtain ⟨q, hq⟩ : ∃ q, w.heap.size = q := ⟨_, rfl⟩
 obtain ⟨w1, hw1⟩ : ∃ w1, ((w.alloc (.cells #[.int .i64 a.i, .int .i64 a.j, .int .i64 a.n] 102)).alloc (.cells #[.int .i64 b.i, .int .i64 b.j, .int .i64 b.n] 102)).alloc (.cells #[.int .i64 0, .int .i64 0, .int .i64 0] 102) = w1 := ⟨_, rfl⟩
 have hA : At w1 q 102 #[.int .i64 a.i, .int .i64 a.j, .int .i64 a.n] := by rw [← hw1]; exact ((At.new_ _ _ _ hq.symm).alloc _).alloc _
 have hB : At w1 (q + 1) 102 #[.int .i64 b.i, .int .i64 b.j, .int .i64 b.n] := by rw [← hw1]; exact (At.new_ _ _ _ (by simp [hq])).alloc _
 have hR : At w1 (q + 2) 102 #[.int .i64 0, .int .i64 0, .int .i64 0] := by rw [← hw1]; exact At.new_ _ _ _ (by simp [hq])
 have hb1 : Below q w w1 := by rw [← hw1]; exact (((Below.refl _ _).alloc (by omega) _).alloc (by simp; omega) _).alloc (by simp; omega) _
 have a0 := hA.cell 0
 have a1 := hA.cell 1
 have a2 := hA.cell 2
 have b0 := hB.cell 0
 have b1 := hB.cell 1
 have b2 := hB.cell 2
 simp at a0 a1 a2 b0 b1 b2
 have hs := hR.inside
 have hw1' := Lib.hid hw1
 have hq' := Lib.hid hq
 have hC1 := fun d os => Calls.regrown_of (riseOf_any a (grow (redrawn w1 d) os))
 have hC2 := fun d os => Calls.regrown_of (riseOf_any b (grow (redrawn w1 d) os))
 have e0 := cell_regrown a0
 have e1 := cell_regrown a1
 have e2 := cell_regrown a2
 have f0 := cell_regrown b0
 have f1 := cell_regrown b1
 have f2 := cell_regrown b2
 clear a0 a1 a2 b0 b1 b2 hw1 hq
 go_enter Tryz.func56, Tryz.ntmps56
 go_upto_region 1 with fail
 try simp only [hq'.out]
 try rw [hw1'.out]
 refine wp_region_quiet_below (by kernel_rfl) (by kernel_rfl) ?_
 repeat (go_big_quiet_step (first | with_reducible exact hC1 _ _ | with_reducible exact hC2 _ _))
 refine wpQuiet_nil ?_
 intro _ hw'
 obtain ⟨⟨dr, osr⟩, hw''⟩ := hw'
 subst hw''
 obtain ⟨w2, hw2⟩ : ∃ w2, grow (redrawn w1 dr) osr = w2 := ⟨_, rfl⟩
 have hg2 := below_regrown w1 dr osr
 rw [hw2] at hg2 ⊢
 have hA2 := hA.keep hg2 (by omega)
 have hB2 := hB.keep hg2 (by omega)
 have hR2 := hR.keep hg2 (by omega)
 have hb2 := hb1.trans (hg2.mono (by omega : q ≤ w1.heap.size))
 have c0 := hA2.cell 0
 have c1 := hA2.cell 1
 have c2 := hA2.cell 2
 have d0 := hB2.cell 0
 have d1 := hB2.cell 1
 have d2 := hB2.cell 2
 have r0 := hR2.cell 0
 have r1 := hR2.cell 1
 have r2 := hR2.cell 2
 have rf := hR2.free
 have hs2 := hR2.inside
 simp at c0 c1 c2 d0 d1 d2 r0 r1 r2
 have hR' := Lib.hid hR2
 have hb' := Lib.hid hb2
 clear hC1 hC2 e0 e1 e2 f0 f1 f2 hw2 hg2 hA hB hR hb1 hA2 hB2 hR2 hb2
 by_cases hl : b.n < a.n
 · have he := Lib.hid (show lessW a b = b by unfold lessW; rw [if_pos hl])
   go_wp2
   refine bodyPost_ret (res_way rfl rfl (by exact put3 hR'.out)) rfl ?_
   exact ⟨ret_way he.out.symm, by rw [hq'.out]; exact ((hb'.out.setCell (by simp <;> omega) _).setCell (by simp <;> omega) _).setCell (by simp <;> omega) _⟩
 · have he := Lib.hid (show lessW a b = a by unfold lessW; rw [if_neg hl])
   have hl' : a.n ≤ b.n := by omega
   go_wp2
   refine bodyPost_ret (res_way rfl rfl (by exact put3 hR'.out)) rfl ?_
   exact ⟨ret_way he.out.symm, by rw [hq'.out]; exact ((hb'.out.setCell (by simp <;> omega) _).setCell (by simp <;> omega) _).setCell (by simp <;> omega) _⟩
theorem keep_any (c : Nat) (a b : Wy) (w : World) (hc : At w c 102 (encW a)) :
 Calls Tryz.prog 55 #[.agg #[.int .i64 b.i, .int .i64 b.j, .int .i64 b.n], .pointer (some ⟨c, 0, none⟩)] w fun e w' =>
  (∃ u, e = .returned u) ∧ At w' c 102 (encW (lessW a b)) ∧ ∃ w1, Below w.heap.size w w1 ∧ w' = ((w1.setCell ⟨c, 0, none⟩ (.int .i64 (lessW a b).i)).setCell ⟨c, 1, none⟩ (.int .i64 (lessW a b).j)).setCell ⟨c, 2, none⟩ (.int .i64 (lessW a b).n) := by
 unfold encW at *
 obtain ⟨q, hq⟩ : ∃ q, w.heap.size = q := ⟨_, rfl⟩
 obtain ⟨w1, hw1⟩ : ∃ w1, w.alloc (.cells #[.int .i64 b.i, .int .i64 b.j, .int .i64 b.n] 102) = w1 := ⟨_, rfl⟩
 have hci := hc.inside
 have hB : At w1 q 102 #[.int .i64 b.i, .int .i64 b.j, .int .i64 b.n] := by rw [← hw1]; exact At.new_ _ _ _ hq.symm
 have hA : At w1 c 102 #[.int .i64 a.i, .int .i64 a.j, .int .i64 a.n] := by rw [← hw1]; exact hc.alloc _
 have hb1 : Below q w w1 := by rw [← hw1]; exact (Below.refl _ _).alloc (by omega) _
 have a0 := hA.cell 0
 have a1 := hA.cell 1
 have a2 := hA.cell 2
 have b0 := hB.cell 0
 have b1 := hB.cell 1
 have b2 := hB.cell 2
 simp at a0 a1 a2 b0 b1 b2
 have hs := hB.inside
 have hw1' := Lib.hid hw1
 have hq' := Lib.hid hq
 have hC := lesser_any a b w1
 clear hw1 hq
 go_enter Tryz.func55, Tryz.ntmps55
 go_upto_region 1 with fail
 try simp only [hq'.out]
 try rw [hw1'.out]
 go_wp2_with fail
 refine hC.mono ?_
 clear hC
 rintro e w2 ⟨rfl, hb2⟩
 have hA2 := hA.keep hb2 hA.inside
 have hB2 := hb1.trans (hb2.mono (by omega : q ≤ w1.heap.size))
 have c0 := hA2.cell 0
 have c1 := hA2.cell 1
 have c2 := hA2.cell 2
 have rf := hA2.free
 simp at c0 c1 c2
 have hci2 := hA2.inside
 clear a0 a1 a2 b0 b1 b2 hb2 hb1 hA hB
 unfold encW
 go_wp2
 go_end0
 exact ⟨⟨_, rfl⟩, put3 hA2, _, by first | exact hB2 | (rw [hq'.out]; exact hB2), rfl⟩
theorem keep_in (args : Array Value) (w : World) : (callFunc 55 args).run Tryz.prog w = .ok (.enter 55 args) w := by
 simp [callFunc, Tryz.func55]
 rfl
end Go.Proofs.YteclpblfleakhaaGreatDoor.Cheap
namespace Go.Proofs.YteclpblfleakhaaGreatDoor.Cheap
open Go.RowKit Go.Sort Go.Shelf Go.Proofs.YteclpblfleakhaaGreatDoor.Mem Go.Proofs.YteclpblfleakhaaGreatDoor.Route Go.Proofs.YteclpblfleakhaaGreatDoor.When Go.Proofs.YteclpblfleakhaaGreatDoor.Load Go.Proofs.YteclpblfleakhaaGreatDoor.Ins Go.Proofs.YteclpblfleakhaaGreatDoor.Up
set_option linter.unusedVariables false
attribute [local go_sem] Oper.semAt_some
theorem at_kept {B : Nat} {A A' : World} {g : Nat} {t : TypeId} {cs : Array Value} (h : At A g t cs) (hk : Kept B A A') (hg : B ≤ g) : At A' g t cs := (hk.same g hg h.inside).trans h
structure EachI (q k n : Nat) (v : Vh) (vl vt c : Value) (N : Nat) (l : List (Int × Int)) (t : List Rq) (r : Int) (K : List Wy → World → Prop) (pre : List (Int × Int)) (W : World) : Prop where
 hv : At W q 32 #[.int .i64 v.hx, .int .i64 v.hy, .int .i64 v.cp, .int .i64 v.st, .int .i64 v.en]
 hl : At W (q + 1) 28 #[vl]
 ht : At W (q + 2) 37 #[vt]
 hr : At W (q + 3) 3 #[.int .i64 r]
 hf : At W (q + 4) 137 #[.func (.func n) #[] #[c]]
 num : At W k 3 #[.int .i64 N]
 clo : K (waysP v l t r pre) W
theorem EachI.old {q k n m : Nat} {v : Vh} {vl vt c : Value} {N : Nat} {l : List (Int × Int)} {t : List Rq} {r : Int} {K : List Wy → World → Prop} (hK : Old m K) : Old m (EachI q k n v vl vt c N l t r K) := by
 rintro pre A A' row h hg hr
 exact ⟨At.oldCells h.hv hg hr, At.oldCells h.hl hg hr, At.oldCells h.ht hg hr, At.oldCells h.hr hg hr, At.oldCells h.hf hg hr, At.oldCells h.num hg hr, hK _ _ _ _ h.clo hg hr⟩
set_option maxRecDepth 100000 in
set_option maxHeartbeats 8000000 in
theorem each_any (v : Vh) (vl vt : Value) (l : List (Int × Int)) (t : List Rq) (hll : l.length ≤ 1000000) (hnum : Nums l) (r : Int) (n : Nat) (c : Value) (K : List Wy → World → Prop) (w : World)
 (hK : Old w.heap.size K) (h0 : K [] w) (hin : ∀ args w, (callFunc n args).run Tryz.prog w = .ok (.enter n args) w)
 (hR : ∀ ws A, K ws A → w.heap.size ≤ A.heap.size → Row w.heap.size A vl l ∧ Rqs w.heap.size A vt t ∧ Sg A)
 (hcb : ∀ ws (y : Wy) A, K ws A → w.heap.size ≤ A.heap.size → Calls Tryz.prog n #[.agg #[.int .i64 y.i, .int .i64 y.j, .int .i64 y.n], c] A fun e A' => (∃ u, e = .returned u) ∧ K (ws ++ [y]) A' ∧ Kept w.heap.size A A') :
 Calls Tryz.prog 54 #[.agg #[.int .i64 v.hx, .int .i64 v.hy, .int .i64 v.cp, .int .i64 v.st, .int .i64 v.en], vl, vt, .int .i64 r, .func (.func n) #[] #[c]] w fun e w' =>
  e = .returned (.int .i64 (headE v l t r)) ∧ K (eachL v l t r) w' ∧ w.heap.size ≤ w'.heap.size := by
 obtain ⟨q, hq⟩ : ∃ q, w.heap.size = q := ⟨_, rfl⟩
 rw [hq] at hK hR hcb ⊢
 obtain ⟨w1, hw1⟩ : ∃ w1, ((((w.alloc (.cells #[.int .i64 v.hx, .int .i64 v.hy, .int .i64 v.cp, .int .i64 v.st, .int .i64 v.en] 32)).alloc (.cells #[vl] 28)).alloc (.cells #[vt] 37)).alloc (.cells #[.int .i64 r] 3)).alloc (.cells #[.func (.func n) #[] #[c]] 137) = w1 := ⟨_, rfl⟩
 have hs1 : w1.heap.size = q + 5 := by rw [← hw1]; simp [hq]
 have k0 : At w1 q 32 #[.int .i64 v.hx, .int .i64 v.hy, .int .i64 v.cp, .int .i64 v.st, .int .i64 v.en] := by rw [← hw1]; exact ((((At.new_ _ _ _ hq.symm).alloc _).alloc _).alloc _).alloc _
 have k1 : At w1 (q + 1) 28 #[vl] := by rw [← hw1]; exact (((At.new_ _ _ _ (by simp [hq])).alloc _).alloc _).alloc _
 have k2 : At w1 (q + 2) 37 #[vt] := by rw [← hw1]; exact ((At.new_ _ _ _ (by simp [hq])).alloc _).alloc _
 have k3 : At w1 (q + 3) 3 #[.int .i64 r] := by rw [← hw1]; exact (At.new_ _ _ _ (by simp [hq])).alloc _
 have k4 : At w1 (q + 4) 137 #[.func (.func n) #[] #[c]] := by rw [← hw1]; exact At.new_ _ _ _ (by simp [hq])
 have hK1 : K [] w1 := by rw [← hw1]; exact hK.new (hK.new (hK.new (hK.new (hK.new h0 _) _) _) _) _
 obtain ⟨hL1, hT1, hsg1⟩ := hR _ _ hK1 (by omega)
 have hRise := Rise_any v vl vt l t hll hnum r 0 0 w1 hsg1 (hL1.more (by omega)) (hT1.more (by omega))
 obtain ⟨xl, Nl, capl, rfl, hNl, hl0, hlc1, hlc2⟩ := hL1.opened
 obtain ⟨xt, Nt, capt, rfl, hNt0, htc1, htc2, ht0⟩ := hT1.opened
 unfold maxLen at hlc2 htc2
 have a0 := k0.cell 0
 have a1 := k0.cell 1
 have a2 := k0.cell 2
 have a3 := k0.cell 3
 have a4 := k0.cell 4
 have b0 := k1.cell 0
 have c0 := k2.cell 0
 have d0 := k3.cell 0
 simp at a0 a1 a2 a3 a4 b0 c0 d0
 obtain ⟨E, hE⟩ : ∃ E, riseE v l t r 0 0 = E := ⟨_, rfl⟩
 obtain ⟨V, hV⟩ : ∃ V, riseV v l t r 0 0 = V := ⟨_, rfl⟩
 rw [hE, hV] at hRise
 have hE' := Lib.hid hE
 have hK' := Lib.hid hK
 have hR' := Lib.hid hR
 have hcb' := Lib.hid hcb
 have hq' := Lib.hid hq
 have hw1' := Lib.hid hw1
 have hI1 := Lib.hid (And.intro k0 (And.intro k1 (And.intro k2 (And.intro k3 (And.intro k4 hK1)))))
 have hnum' := Lib.hid hnum
 have hll' := Lib.hid hll
 clear hE hV hK hR hcb h0 hq hw1 hL1 hT1 hsg1 hNt0 ht0 hl0 hnum k0 k1 k2 k3 k4 hK1 hll
 refine (callsIn_wide (n := 3)).1 ?_
 refine callsIn_of_wp_marks Tryz.func54 rfl trivial ?_ rfl
 simp only [Tryz.ntmps54, List.size_toArray, List.length_cons, List.length_nil, Nat.reduceAdd, Nat.reduceSub, Array.replicate_succ, Array.replicate_zero, List.push_toArray, List.append_toArray, List.nil_append, List.cons_append]
 refine wpIn_wide.2 ?_
 go_upto_region 1 with fail
 try simp only [hq'.out]
 try rw [hw1'.out]
 go_wp2_with fail
 refine hRise.mono ?_
 clear hRise a0 a1 a2 a3 a4 b0 c0 d0
 rintro e w2 ⟨rfl, hb2⟩
 obtain ⟨j0, j1, j2, j3, j4, jK⟩ := hI1.out
 have hs2 : q + 5 ≤ w2.heap.size := by have := hb2.size; omega
 have m0 := j0.keep hb2 j0.inside
 have m1 := j1.keep hb2 j1.inside
 have m2 := j2.keep hb2 j2.inside
 have m3 := j3.keep hb2 j3.inside
 have m4 := j4.keep hb2 j4.inside
 have mK := Load.Old.below hK'.out jK hb2
 have b0 := m1.cell 0
 simp at b0
 have hI2 := Lib.hid (And.intro m0 (And.intro m1 (And.intro m2 (And.intro m3 (And.intro m4 mK)))))
 clear hb2 j0 j1 j2 j3 j4 jK m0 m1 m2 m3 m4 mK hI1
 by_cases hok : E = 0 ∨ E = 9 ∨ E = 10
 case neg =>
  have n0 : (E == 0) = false := by simp; omega
  have n1 : (E == 10) = false := by simp; omega
  have n2 : (E == 9) = false := by simp; omega
  have he := Lib.hid (show headE v l t r = E by unfold headE; rw [hE'.out, if_neg hok])
  have he2 := Lib.hid (show eachL v l t r = [] by unfold eachL; rw [if_neg (by rw [he.out]; omega)])
  go_wp2
  exact ⟨.int .i64 E, by simp [results, Tryz.results54, go_sem], by rw [he.out], by rw [he2.out]; exact hI2.out.2.2.2.2.2, by omega⟩
 have he := Lib.hid (show headE v l t r = 0 by unfold headE; rw [hE'.out, if_pos hok])
 have he2 := Lib.hid (show eachL v l t r = waysP v l t r (pairsL l.length) by unfold eachL; rw [if_pos he.out])
 obtain ⟨k, hk⟩ : ∃ k, w2.heap.size = k := ⟨_, rfl⟩
 rw [hk] at hs2
 have hk' := Lib.hid hk
 have hNi : Nl ≤ 1000000 := by have := hNl.out; have := hll'.out; omega
 have hh1 : E = 0 ∨ E = 10 ∨ E = 9 := by omega
 clear hok hk
 rcases hh1 with rfl | rfl | rfl
 all_goals
  go_wp2_with fail
  refine (Places_any (Nl : Int) w2).mono ?_
  rintro e w3 ⟨rfl, hw3⟩
  have hg3 : w2.grownBy w3 none := by rw [← hw3]; exact World.grownBy_alloc _ _ _
  have hN3 : At w3 k 3 #[.int .i64 Nl] := by rw [← hw3]; exact At.new_ _ _ _ hk'.out.symm
  have hs3 : w3.heap.size = k + 1 := by rw [← hw3]; simp [hk'.out]
  have hI3 : EachI q k n v (.slice xl Nl capl) (.slice xt Nt capt) c Nl l t r K [] w3 := by
   obtain ⟨m0, m1, m2, m3, m4, mK⟩ := hI2.out
   have hb : Below w2.heap.size w2 w3 := by rw [← hw3]; exact (Below.refl _ _).alloc (Nat.le_refl _) _
   exact ⟨m0.keep hb m0.inside, m1.keep hb m1.inside, m2.keep hb m2.inside, m3.keep hb m3.inside, m4.keep hb m4.inside, hN3, hK'.out _ _ _ _ mK hg3 (fun r e => by cases e)⟩
  have hnil := nil_places
  have hs3' := Lib.hid hs3
  clear hw3 hg3 hN3 hI2 b0 hs3
  go_wp2_with fail
  try simp only [hk'.out]
  refine (wpIn_wide (n := 3)).1 ?_
  refine rangesRound2 (gf := 93) (fst := #[]) (lb := #[.pointer (some ⟨k, 0, none⟩)]) rfl (enters_of Tryz.func93 (by kernel_rfl) rfl) (encs := Ins.encP) (good := fun _ => true) (xs := pairsL Nl) (fun _ => rfl)
   (EachI q k n v (.slice xl Nl capl) (.slice xt Nt capt) c Nl l t r K) (EachI.old (hK'.out.mono (by have := hs3'.out; omega))) hI3 (places_runs Nl k _ _ (EachI q k n v (.slice xl Nl capl) (.slice xt Nt capt) c Nl l t r K) (fun _ _ h => h.num)) ?round ?done ?stop
  case stop => exact fun _ _ _ h => absurd (fun _ _ => rfl) h
  case round =>
   rintro l2 pre x Wr ⟨rest, hx⟩ hW2 hIr -
   dsimp only [Ins.encP]
   gi_wp2
   refine ⟨World.grownBy.refl _ _, fun Vr hVs hVb hI2 => ?_⟩
   have hVq : q + 5 ≤ Vr.heap.size := by have := hs3'.out; omega
   have hHs : k + 2 < Vr.heap.size := by have := hs3'.out; omega
   obtain ⟨hLr, hTr, hsgr⟩ := hR'.out _ _ hI2.clo (by omega)
   have hRise := Rise_any v (.slice xl Nl capl) (.slice xt Nt capt) l t hll'.out hnum'.out r x.1 x.2 Vr hsgr (hLr.more (by omega)) (hTr.more (by omega))
   have a0 := hI2.hv.cell 0
   have a1 := hI2.hv.cell 1
   have a2 := hI2.hv.cell 2
   have a3 := hI2.hv.cell 3
   have a4 := hI2.hv.cell 4
   have b0 := hI2.hl.cell 0
   have c0 := hI2.ht.cell 0
   have d0 := hI2.hr.cell 0
   simp at a0 a1 a2 a3 a4 b0 c0 d0
   obtain ⟨E, hE⟩ : ∃ E, riseE v l t r x.1 x.2 = E := ⟨_, rfl⟩
   obtain ⟨U, hU⟩ : ∃ U, riseV v l t r x.1 x.2 = U := ⟨_, rfl⟩
   rw [hE, hU] at hRise
   have hI2' := Lib.hid hI2
   have hEx' := Lib.hid hE
   have hUx' := Lib.hid hU
   have hsn := Lib.hid (waysP_snoc v l t r pre x)
   clear hI2 hE hU hLr hTr hsgr hIr hVs hVb hx hW2 hI3 hnil
   gi_wp2_with fail
   refine ⟨trivial, (callsIn_wide.2 hRise).mono ?_⟩
   clear hRise a0 a1 a2 a3 a4 b0 c0 d0
   rintro e w4 ⟨rfl, hb4⟩
   have hg4 : Vr.grownBy w4 none := ⟨hb4.os, hb4.tape, hb4.output, hb4.size, fun k hk _ => hb4.block k hk⟩
   have hI4 : EachI q k n v (.slice xl Nl capl) (.slice xt Nt capt) c Nl l t r K pre w4 := EachI.old hK'.out _ _ _ _ hI2'.out hg4 (fun r e => by cases e)
   have hH4 : Held w3.heap.size Vr w4 := Held.grown hg4 (by have := hs3'.out; omega) (fun r e => by cases e)
   have hs4 : q + 5 ≤ w4.heap.size := by have := hb4.size; omega
   have hkk : k + 2 < w4.heap.size := by have := hb4.size; omega
   clear hb4 hg4 hI2'
   cases hE0 : (E == 0)
   · have hno := Lib.hid (show waysP v l t r (pre ++ [x]) = waysP v l t r pre by rw [hsn.out, wayI_no (by rw [hEx'.out]; simpa using hE0)]; exact List.append_nil _)
     have hI4' := Lib.hid hI4
     have hH4' := Lib.hid hH4
     clear hI4 hH4
     gi_wp2
     obtain ⟨g0, g1, g2, g3, g4, g5, g6⟩ := hI4'.out
     exact ⟨rfl, ⟨g0, g1, g2, g3, g4, g5, by rw [hno.out]; exact g6⟩, hH4'.out⟩
   · have hyes := Lib.hid (show waysP v l t r (pre ++ [x]) = waysP v l t r pre ++ [⟨x.1, x.2, U⟩] by rw [hsn.out, wayI_yes (by rw [hEx'.out]; simpa using hE0), hUx'.out]; rfl)
     have f0 := hI4.hf.cell 0
     simp at f0
     have hcall := hcb'.out _ ⟨x.1, x.2, U⟩ w4 hI4.clo (by omega)
     have hI4' := Lib.hid hI4
     have hH4' := Lib.hid hH4
     clear hI4 hH4
     gi_wp2_with fail
     refine ⟨trivial, (callsIn_wide.2 hcall).mono ?_⟩
     clear hcall f0
     rintro e w5 ⟨⟨u, rfl⟩, hK5, hk5⟩
     have hfin := Lib.hid (show EachI q k n v (.slice xl Nl capl) (.slice xt Nt capt) c Nl l t r K (pre ++ [x]) w5 by
      obtain ⟨g0, g1, g2, g3, g4, g5, g6⟩ := hI4'.out
      exact ⟨at_kept g0 hk5 (by omega), at_kept g1 hk5 (by omega), at_kept g2 hk5 (by omega), at_kept g3 hk5 (by omega), at_kept g4 hk5 (by omega), at_kept g5 hk5 (by omega), by rw [hyes.out]; exact hK5⟩)
     have hH5 := Lib.hid (hH4'.out.trans ⟨hk5.size, hk5.same _ (by have := hs3'.out; omega) (by have := hs3'.out; omega), hk5.same _ (by have := hs3'.out; omega) (by have := hs3'.out; omega)⟩)
     clear hK5 hk5
     gi_wp2
     exact ⟨rfl, hfin.out, hH5.out⟩
  case done =>
   rintro Wr hW2 hI2 - hD
   have hKd : K (waysP v l t r (pairsL Nl)) (Wr.putObj w3.heap.size (.deferred none)) := hK'.out _ _ _ _ hI2.clo (grownBy_putObj' Wr w3.heap.size (.deferred none)) (fun r e => by cases e; exact ⟨by have := hs3'.out; omega, _, hD, rfl⟩)
   have hKd' := Lib.hid hKd
   have hWs : q ≤ Wr.heap.size := by have := hs3'.out; omega
   clear hI2 hKd
   go_wp2
   refine ⟨by simp, .inl ⟨_, _, rfl, run_takeDeferred hD, ?_⟩⟩
   exact ⟨.int .i64 0, by simp [results, Tryz.results54, go_sem], by rw [he.out], by rw [he2.out, hNl.out]; exact hKd'.out, by simpa using hWs⟩
structure BestI (w : World) (q : Nat) (v : Vh) (ws : List Wy) (W : World) : Prop where
 hv : At W q 32 #[.int .i64 v.hx, .int .i64 v.hy, .int .i64 v.cp, .int .i64 v.st, .int .i64 v.en]
 res : At W (q + 1) 102 #[.int .i64 0, .int .i64 0, .int .i64 0]
 best : At W (q + 2) 102 (encW (leastW ws))
 below : Below q w W
theorem BestI.old {w : World} {q m : Nat} {v : Vh} (hm : q ≤ m) : Old m (BestI w q v) := by
 rintro ws A A' row h hg hr
 exact ⟨At.oldCells h.hv hg hr, At.oldCells h.res hg hr, At.oldCells h.best hg hr, h.below.grown hg (Nat.le_of_lt h.hv.inside) (fun k e => by have := (hr k e).1; omega)⟩
theorem res_way2 {fn : Func} {p k : Tmp} (h : fn.results = #[.cell p 102, .tmp k]) {tmps : Array Value} {w : World} {g : Nat} {x0 x1 x2 u : Value} (hp : tmps.getD p undef = .pointer (some ⟨g, 0, none⟩)) (hk : tmps.getD k undef = u)
 (hA : At w g 102 #[x0, x1, x2]) : (results fn tmps).run Tryz.prog w = .ok (.tuple #[.agg #[x0, x1, x2], u]) w := by
 have hp' : tmps[p]?.getD undef = .pointer (some ⟨g, 0, none⟩) := by simpa using hp
 have hk' : tmps[k]?.getD undef = u := by simpa using hk
 have c0 := hA.cell 0
 have c1 := hA.cell 1
 have c2 := hA.cell 2
 simp at c0 c1 c2
 simp only [results, h]
 go_simp
 try rw [hk']
theorem ret_best {a b : Wy} {c d : Int} (h : a = b) (h2 : c = d) : Ending.returned (.tuple #[.agg (encW a), .int .i64 c]) = .returned (.tuple #[.agg (encW b), .int .i64 d]) := by rw [h, h2]
theorem way_eq {a : Wy} : (decide (a.i = -1) && (decide (a.j = -1) && decide (a.n = 9223372036854775807))) = decide (a = noW) := by
 cases a
 simp [noW]
theorem eq_way (a b c d e f : Int) (w : World) : Sem.run Tryz.prog (Op.equalIn 10000 102 (Value.agg #[.int .i64 a, .int .i64 b, .int .i64 c]) (Value.agg #[.int .i64 d, .int .i64 e, .int .i64 f])) w = .ok (decide (a = d) && (decide (b = e) && decide (c = f))) w := by
 unfold Op.equalIn
 simp [go_sem]
 by_cases h1 : a = d <;> by_cases h2 : b = e <;> by_cases h3 : c = f <;> simp [h1, h2, h3]
set_option maxRecDepth 100000 in
set_option maxHeartbeats 8000000 in
theorem Best_any (v : Vh) (vl vt : Value) (l : List (Int × Int)) (t : List Rq) (hll : l.length ≤ 1000000) (hnum : Nums l) (r : Int) (w : World) (hsg : Sg w) (hL : Row w.heap.size w vl l) (hT : Rqs w.heap.size w vt t) :
 Calls Tryz.prog 37 #[.agg #[.int .i64 v.hx, .int .i64 v.hy, .int .i64 v.cp, .int .i64 v.st, .int .i64 v.en], vl, vt, .int .i64 r] w fun e w' =>
  e = .returned (.tuple #[.agg (encW (bestW v l t r)), .int .i64 (bestE v l t r)]) ∧ Below w.heap.size w w' := by
 obtain ⟨q, hq⟩ : ∃ q, w.heap.size = q := ⟨_, rfl⟩
 obtain ⟨n0, n1, n2⟩ := hsg.none
 obtain ⟨w1, hw1⟩ : ∃ w1, (w.alloc (.cells #[.int .i64 v.hx, .int .i64 v.hy, .int .i64 v.cp, .int .i64 v.st, .int .i64 v.en] 32)).alloc (.cells #[.int .i64 0, .int .i64 0, .int .i64 0] 102) = w1 := ⟨_, rfl⟩
 have hs1 : w1.heap.size = q + 2 := by rw [← hw1]; simp [hq]
 have hv1 : At w1 q 32 #[.int .i64 v.hx, .int .i64 v.hy, .int .i64 v.cp, .int .i64 v.st, .int .i64 v.en] := by rw [← hw1]; exact (At.new_ _ _ _ hq.symm).alloc _
 have hr1 : At w1 (q + 1) 102 #[.int .i64 0, .int .i64 0, .int .i64 0] := by rw [← hw1]; exact At.new_ _ _ _ (by simp [hq])
 have hb1 : Below q w w1 := by rw [← hw1]; exact ((Below.refl _ _).alloc (by omega) _).alloc (by simp; omega) _
 have hsg1 := hsg.on (by rw [hq]; exact hb1)
 obtain ⟨g0, g1, g2⟩ := hsg1.none
 obtain ⟨w2, hw2⟩ : ∃ w2, w1.alloc (.cells #[.int .i64 (-1), .int .i64 (-1), .int .i64 9223372036854775807] 102) = w2 := ⟨_, rfl⟩
 have hs2 : w2.heap.size = q + 3 := by rw [← hw2]; simp [hs1]
 have hI2 : BestI w q v [] w2 := by
  rw [← hw2]
  exact ⟨hv1.alloc _, hr1.alloc _, At.new_ _ _ _ hs1.symm, hb1.alloc (by omega) _⟩
 have hEach := each_any v vl vt l t hll hnum r 55 (.pointer (some ⟨q + 2, 0, none⟩)) (BestI w q v) w2 (BestI.old (by omega)) hI2 keep_in
  (fun ws A hI _ => ⟨((hL.keep (by rw [hq]; exact hI.below) (Nat.le_refl _)).more (by omega)), ((hT.keep (by rw [hq]; exact hI.below) (Nat.le_refl _)).more (by omega)), hsg.on (by rw [hq]; exact hI.below)⟩)
  (fun ws y A hI hA => (keep_any (q + 2) (leastW ws) y A hI.best).mono (by
   rintro e A' ⟨hu, hat, A1, hA1, rfl⟩
   have hsz := hA1.size
   refine ⟨hu, ⟨?_, ?_, ?_, ?_⟩, ?_⟩
   · exact (((hI.hv.keep hA1 (by omega)).far (by omega) _ _).far (by omega) _ _).far (by omega) _ _
   · exact (((hI.res.keep hA1 (by omega)).far (by omega) _ _).far (by omega) _ _).far (by omega) _ _
   · rw [leastW_snoc]; exact hat
   · exact (((hI.below.trans (hA1.mono (by omega))).setCell (by simp) _).setCell (by simp) _).setCell (by simp) _
   · refine ⟨by simpa using hsz, fun k hk1 hk2 => ?_⟩
     exact (Below.heap_setCell _ _ _ _ (by simp; omega)).trans ((Below.heap_setCell _ _ _ _ (by simp; omega)).trans ((Below.heap_setCell _ _ _ _ (by simp; omega)).trans (hA1.block k hk2)))))
 have a0 := hv1.cell 0
 have a1 := hv1.cell 1
 have a2 := hv1.cell 2
 have a3 := hv1.cell 3
 have a4 := hv1.cell 4
 have p0 := hI2.hv.cell 0
 have p1 := hI2.hv.cell 1
 have p2 := hI2.hv.cell 2
 have p3 := hI2.hv.cell 3
 have p4 := hI2.hv.cell 4
 simp at a0 a1 a2 a3 a4 p0 p1 p2 p3 p4
 obtain ⟨xl, Nl, capl, rfl, hNl, -⟩ := hL.opened
 obtain ⟨xt, Nt, capt, rfl, -⟩ := hT.opened
 obtain ⟨H, hH⟩ : ∃ H, headE v l t r = H := ⟨_, rfl⟩
 rw [hH] at hEach
 have hH' := Lib.hid hH
 have hq' := Lib.hid hq
 have hw1' := Lib.hid hw1
 have hw2' := Lib.hid hw2
 have hs1' := Lib.hid hs1
 have hsg' := Lib.hid hsg
 clear hH hq hw1 hw2 hsg hsg1 hI2 hL hT hNl hv1 hr1 hb1 n0 n1 n2
 go_enter Tryz.func37, Tryz.ntmps37
 go_upto_region 1 with fail
 try simp only [hq'.out]
 try rw [hw1'.out]
 go_upto_region 2 with fail
 try simp only [hs1'.out]
 rw [hw2'.out]
 go_wp2_with fail
 refine hEach.mono ?_
 clear hEach a0 a1 a2 a3 a4 p0 p1 p2 p3 p4 g0 g1 g2
 rintro e w3 ⟨rfl, hI3, hs3⟩
 have b0 := hI3.best.cell 0
 have b1 := hI3.best.cell 1
 have b2 := hI3.best.cell 2
 have r0 := hI3.res.cell 0
 have r1 := hI3.res.cell 1
 have r2 := hI3.res.cell 2
 have rf := hI3.res.free
 simp [encW] at b0 b1 b2 r0 r1 r2
 obtain ⟨g0, g1, g2⟩ := (hsg'.out.on (by rw [hq'.out]; exact hI3.below)).none
 have hI3' := Lib.hid hI3
 have hss : q + 2 < w3.heap.size := hI3.best.inside
 clear hI3
 obtain ⟨L, hLw⟩ : ∃ L, leastW (eachL v l t r) = L := ⟨_, rfl⟩
 rw [hLw] at b0 b1 b2
 have hLw' := Lib.hid hLw
 clear hLw
 cases hh : (H == 0)
 · have hh1 : (H != 0) = true := by simpa using hh
   have he := Lib.hid (show bestE v l t r = H by rw [bestE_head (by rw [hH'.out]; simpa using hh), hH'.out])
   have hwn := Lib.hid (bestW_no (v := v) (l := l) (t := t) (r := r) (by rw [he.out]; simpa using hh))
   go_wp2
   refine bodyPost_ret (res_way2 rfl rfl rfl (by exact put3 hI3'.out.res)) rfl ?_
   exact ⟨ret_best (a := ⟨0, 0, 0⟩) hwn.out.symm he.out.symm, by rw [hq'.out]; exact ((hI3'.out.below.setCell (by simp) _).setCell (by simp) _).setCell (by simp) _⟩
 · have hh1 : (H != 0) = false := by simpa using hh
   have hz := Lib.hid (show headE v l t r = 0 by rw [hH'.out]; simpa using hh)
   have heq := eq_way
   have hno := Lib.hid (least_none (each_small v l t r))
   cases hn : (decide (L.i = -1) && (decide (L.j = -1) && decide (L.n = 9223372036854775807)))
   · have hne := Lib.hid (show bestE v l t r = 0 from bestE_ok hz.out (fun e => by
      have e2 := hno.out.2 e
      rw [hLw'.out] at e2
      rw [way_eq, e2] at hn
      simp at hn))
     have hwn := Lib.hid (show bestW v l t r = L by rw [bestW_ok hne.out, hLw'.out])
     go_wp2
     refine bodyPost_ret (res_way2 rfl rfl rfl (by exact put3 hI3'.out.res)) rfl ?_
     exact ⟨ret_best (a := L) hwn.out.symm hne.out.symm, by rw [hq'.out]; exact ((hI3'.out.below.setCell (by simp) _).setCell (by simp) _).setCell (by simp) _⟩
   · have he2 := Lib.hid (show bestE v l t r = 12 from bestE_none hz.out (hno.out.1 (by
      rw [hLw'.out]
      rw [way_eq] at hn
      simpa using hn)))
     have hwn := Lib.hid (bestW_no (v := v) (l := l) (t := t) (r := r) (by rw [he2.out]; omega))
     go_wp2
     refine bodyPost_ret (res_way2 rfl rfl rfl (by exact put3 hI3'.out.res)) rfl ?_
     exact ⟨ret_best (a := ⟨0, 0, 0⟩) hwn.out.symm he2.out.symm, by rw [hq'.out]; exact ((hI3'.out.below.setCell (by simp) _).setCell (by simp) _).setCell (by simp) _⟩
def putC (v : Vh) (l : List (Int × Int)) (t : List Rq) (r : Int) : List (Int × Int) := moreL l r (bestW v l t r).i (bestW v l t r).j
def PutOk (w W : World) (u : Value) (v : Vh) (l : List (Int × Int)) (t : List Rq) (r : Int) : Prop :=
 if bestE v l t r = 0 then Row W.heap.size W u (putC v l t r) ∧ New w.heap.size u else u = .slice none 0 0
theorem ret_put {u : Value} {a b c d : Int} (h : a = b) (h2 : c = d) : Ending.returned (.tuple #[u, .int .i64 a, .int .i64 c]) = .returned (.tuple #[u, .int .i64 b, .int .i64 d]) := by rw [h, h2]
set_option maxRecDepth 100000 in
set_option maxHeartbeats 8000000 in
theorem Put_any (v : Vh) (vl vt : Value) (l : List (Int × Int)) (t : List Rq) (hll : l.length ≤ 1000000) (hnum : Nums l) (r : Int) (w : World) (hsg : Sg w) (hL : Row w.heap.size w vl l) (hT : Rqs w.heap.size w vt t) :
 Calls Tryz.prog 33 #[.agg #[.int .i64 v.hx, .int .i64 v.hy, .int .i64 v.cp, .int .i64 v.st, .int .i64 v.en], vl, vt, .int .i64 r] w fun e w' =>
  (∃ u, e = .returned (.tuple #[u, .int .i64 (bestW v l t r).n, .int .i64 (bestE v l t r)]) ∧ PutOk w w' u v l t r) ∧ Below w.heap.size w w' := by
 obtain ⟨q, hq⟩ : ∃ q, w.heap.size = q := ⟨_, rfl⟩
 obtain ⟨w1, hw1⟩ : ∃ w1, w.alloc (.cells #[.int .i64 v.hx, .int .i64 v.hy, .int .i64 v.cp, .int .i64 v.st, .int .i64 v.en] 32) = w1 := ⟨_, rfl⟩
 have hs1 : w1.heap.size = q + 1 := by rw [← hw1]; simp [hq]
 have hv1 : At w1 q 32 #[.int .i64 v.hx, .int .i64 v.hy, .int .i64 v.cp, .int .i64 v.st, .int .i64 v.en] := by rw [← hw1]; exact At.new_ _ _ _ hq.symm
 have hb1 : Below q w w1 := by rw [← hw1]; exact (Below.refl _ _).alloc (by omega) _
 have hL1 := ((hL.keep (by rw [hq]; exact hb1) (Nat.le_refl _)).more (by omega : w.heap.size ≤ w1.heap.size))
 have hT1 := ((hT.keep (by rw [hq]; exact hb1) (Nat.le_refl _)).more (by omega : w.heap.size ≤ w1.heap.size))
 have hB := Best_any v vl vt l t hll hnum r w1 (hsg.on (by rw [hq]; exact hb1)) hL1 hT1
 have a0 := hv1.cell 0
 have a1 := hv1.cell 1
 have a2 := hv1.cell 2
 have a3 := hv1.cell 3
 have a4 := hv1.cell 4
 simp at a0 a1 a2 a3 a4
 obtain ⟨xl, Nl, capl, rfl, hNl, -⟩ := hL.opened
 obtain ⟨xt, Nt, capt, rfl, -⟩ := hT.opened
 obtain ⟨B, hBw⟩ : ∃ B, bestW v l t r = B := ⟨_, rfl⟩
 obtain ⟨E, hEe⟩ : ∃ E, bestE v l t r = E := ⟨_, rfl⟩
 rw [hBw, hEe] at hB ⊢
 unfold encW at hB
 have hin := Lib.hid (fun h : E = 0 => (by have := (best_in (hEe.trans h)).1; rw [hBw] at this; exact (withE_zero (riseE_zero this).1).2.2.2.2 : mayW l r B.i B.j = true))
 have hno := Lib.hid (fun h : E ≠ 0 => (by rw [← hBw]; exact bestW_no (by rw [hEe]; exact h) : B = ⟨0, 0, 0⟩))
 have hpc := Lib.hid (show putC v l t r = moreL l r B.i B.j by unfold putC; rw [hBw])
 have hE' := Lib.hid hEe
 have hq' := Lib.hid hq
 have hw1' := Lib.hid hw1
 have hs1' := Lib.hid hs1
 have hb1' := Lib.hid hb1
 have hL' := Lib.hid hL1
 have hll' := Lib.hid hll
 clear hBw hEe hq hw1 hsg hL hT hNl hb1 hnum hL1 hT1 hll
 go_enter Tryz.func33, Tryz.ntmps33
 go_upto_region 1 with fail
 try simp only [hq'.out]
 try rw [hw1'.out]
 go_wp2_with fail
 refine hB.mono ?_
 clear hB a0 a1 a2 a3 a4
 rintro e w2 ⟨rfl, hb2⟩
 have hB2 := hb1'.out.trans (hb2.mono (by omega : q ≤ w1.heap.size))
 have hL2 := Lib.hid ((hL'.out.keep hb2 (Nat.le_refl _)).more hb2.size)
 have hB2' := Lib.hid hB2
 have hs2 : q + 1 ≤ w2.heap.size := by have := hb2.size; omega
 clear hb2 hv1 hB2
 obtain ⟨m, hm⟩ : ∃ m, w2.heap.size = m := ⟨_, rfl⟩
 have hm' := Lib.hid hm
 obtain ⟨w3, hw3⟩ : ∃ w3, w2.alloc (.cells #[.int .i64 B.i, .int .i64 B.j, .int .i64 B.n] 102) = w3 := ⟨_, rfl⟩
 have hs3 : w3.heap.size = m + 1 := by rw [← hw3]; simp [hm]
 have hA3 : At w3 m 102 #[.int .i64 B.i, .int .i64 B.j, .int .i64 B.n] := by rw [← hw3]; exact At.new_ _ _ _ hm.symm
 have hb3 : Below m w2 w3 := by rw [← hw3]; exact (Below.refl _ _).alloc (by omega) _
 have hB3 := Lib.hid (hB2'.out.trans (hb3.mono (by omega : q ≤ m)))
 have hL3 := Lib.hid ((hL2.out.keep (by rw [hm]; exact hb3) (Nat.le_refl _)).more (by omega : w2.heap.size ≤ w3.heap.size))
 have hWith := With_any _ l r B.i B.j hll'.out w3 hL3.out
 have c0 := hA3.cell 0
 have c1 := hA3.cell 1
 simp at c0 c1
 have hw3' := Lib.hid hw3
 clear hw3 hm hb3
 cases he0 : (E == 0)
 · have he1 : (E != 0) = true := by simpa using he0
   clear hWith
   have hne : E ≠ 0 := by simpa using he0
   have hBz := Lib.hid (show B.n = 0 by rw [hno.out hne])
   have hB4 := Lib.hid hB3
   go_wp2
   refine bodyPost_ret (v := .tuple #[.slice none 0 0, .int .i64 0, .int .i64 E]) (by simp [results, Tryz.results33, go_sem]) rfl ?_
   try simp only [hw3'.out]
   exact ⟨⟨_, ret_put hBz.out.symm rfl, by unfold PutOk; rw [hE'.out, if_neg hne]⟩, by rw [hq'.out]; exact hB3.out⟩
 · have he1 : (E != 0) = false := by simpa using he0
   have hz : E = 0 := by simpa using he0
   have hmay := hin.out hz
   rw [hmay] at hWith
   have hmo := Lib.hid (withV_more hmay)
   go_upto_region 2 with fail
   try simp only [hm'.out]
   try rw [hw3'.out]
   go_wp2_with fail
   refine hWith.mono ?_
   clear hWith c0 c1
   rintro e w4 ⟨⟨u, rfl, hu, hnew⟩, hb4⟩
   have hA4 := hA3.keep hb4 (by omega)
   have hB4 := Lib.hid (hB3.out.trans (hb4.mono (by have := hm'.out; omega : q ≤ w3.heap.size)))
   obtain ⟨xu, Nu, cu, rfl, -⟩ := hu.opened
   have c2 := hA4.cell 2
   simp at c2
   have hs4 : m < w4.heap.size := hA4.inside
   have hu' := Lib.hid hu
   have hnew' := Lib.hid hnew
   clear hb4 hu hnew hA4
   have hs34 : q ≤ w3.heap.size := by have := hm'.out; omega
   go_upto_region 5 with fail
   go_quiet (fail)
   go_wp2
   refine bodyPost_ret (v := .tuple #[.slice xu Nu cu, .int .i64 B.n, .int .i64 0]) (by simp [results, Tryz.results33, go_sem]) rfl ?_
   refine ⟨⟨_, ret_put rfl hz.symm, ?_⟩, by rw [hq'.out]; exact Load.below_drewN hB4.out nq⟩
   unfold PutOk
   rw [hE'.out, if_pos hz, hpc.out, ← hmo.out]
   exact ⟨hu'.out.on (Load.below_drewN (Below.refl _ _) nq), hnew'.out.more (by rw [hq'.out]; exact hs34)⟩
end Go.Proofs.YteclpblfleakhaaGreatDoor.Cheap

import Derived.Test.YtfoflfeaegfnnaaPkUp
import Derived.Test.YtfoflfeaegfnnaaPkWhenMild
import Derived.Test.YtfoflfeaegfnnaaPkPlaceDist

/-
  Contracts of package slack's visit, onward and least.
-/
namespace Go.Proofs.Ytfoflfeaegfnnaa.Slack
open Go.RowKit Go.Sort Go.Proofs.Ytfoflfeaegfnnaa.Mem Go.Proofs.Ytfoflfeaegfnnaa.Route Go.Proofs.Ytfoflfeaegfnnaa.When Go.Proofs.Ytfoflfeaegfnnaa.Tail
set_option linter.unusedVariables false

/-- The k-th visit; behind the last one, home. -/
def visN (v : Vh) (t : List Rq) (l : List (Int × Int)) (k : Nat) : Vi := ((visL t l)[k]?).getD (homeV v)
theorem visN_at {v : Vh} {t : List Rq} {l : List (Int × Int)} {k : Nat} {s : Int × Int} (h : l[k]? = some s) : visN v t l k = visV t s := by simp [visN, visL, h]
theorem visN_home {v : Vh} {t : List Rq} {l : List (Int × Int)} : visN v t l l.length = homeV v := by simp [visN, visL]
/-- All stops are of requests that there are. -/
def AllIn (t : List Rq) (l : List (Int × Int)) : Prop := ∀ s ∈ l, ∃ x, visO t s = some x

theorem res_vi1 {fn : Func} {p : Tmp} (h : fn.results = #[.cell p 101]) {tmps : Array Value} {w : World} {g : Nat} {x0 x1 x2 x3 x4 : Value} (hp : tmps.getD p undef = .pointer (some ⟨g, 0, none⟩))
    (hA : At w g 101 #[x0, x1, x2, x3, x4]) : (results fn tmps).run Try.prog w = .ok (.agg #[x0, x1, x2, x3, x4]) w := by
  have hp' : tmps[p]?.getD undef = .pointer (some ⟨g, 0, none⟩) := by simpa using hp
  have c0 := hA.cell 0
  have c1 := hA.cell 1
  have c2 := hA.cell 2
  have c3 := hA.cell 3
  have c4 := hA.cell 4
  simp at c0 c1 c2 c3 c4
  simp only [results, h]
  go_simp
theorem ret_vis {a0 a1 a2 a3 a4 b0 b1 b2 b3 b4 : Int} (h0 : a0 = b0) (h1 : a1 = b1) (h2 : a2 = b2) (h3 : a3 = b3) (h4 : a4 = b4) :
    Ending.returned (.agg #[.int .i64 a0, .int .i64 a1, .int .i64 a2, .int .i64 a3, .int .i64 a4]) = .returned (.agg #[.int .i64 b0, .int .i64 b1, .int .i64 b2, .int .i64 b3, .int .i64 b4]) := by rw [h0, h1, h2, h3, h4]

set_option maxRecDepth 100000 in
set_option maxHeartbeats 1000000 in
theorem visit_home (v : Vh) (xl : Option Addr) (Nl Cl : Nat) (vt : Value) (w : World) :
    Calls Try.prog 39 #[.agg #[.int .i64 v.hx, .int .i64 v.hy, .int .i64 v.cp, .int .i64 v.st, .int .i64 v.en, .slice xl Nl Cl, vt], .int .i64 Nl] w fun e w' =>
      e = .returned (.agg #[.int .i64 v.hx, .int .i64 v.hy, .int .i64 0, .int .i64 v.en, .int .i64 0]) ∧ Below w.heap.size w w' := by
  obtain ⟨n, hn⟩ : ∃ n, w.heap.size = n := ⟨_, rfl⟩
  obtain ⟨w1, hw1⟩ : ∃ w1, (w.alloc (.cells #[.int .i64 v.hx, .int .i64 v.hy, .int .i64 v.cp, .int .i64 v.st, .int .i64 v.en, .slice xl Nl Cl, vt] 76)).alloc (.cells #[.int .i64 0, .int .i64 0, .int .i64 0, .int .i64 0, .int .i64 0] 101) = w1 := ⟨_, rfl⟩
  have hP1 : At w1 n 76 #[.int .i64 v.hx, .int .i64 v.hy, .int .i64 v.cp, .int .i64 v.st, .int .i64 v.en, .slice xl Nl Cl, vt] := by rw [← hw1]; exact (At.new_ _ _ _ hn.symm).alloc _
  have hR1 : At w1 (n + 1) 101 #[.int .i64 0, .int .i64 0, .int .i64 0, .int .i64 0, .int .i64 0] := by rw [← hw1]; exact At.new_ _ _ _ (by simp [hn])
  have hB1 : Below n w w1 := by rw [← hw1]; exact ((Below.refl _ _).alloc (by omega) _).alloc (by simp; omega) _
  have p0 := hP1.cell 0
  have p1 := hP1.cell 1
  have p4 := hP1.cell 4
  have p5 := hP1.cell 5
  have r0 := hR1.cell 0
  have r1 := hR1.cell 1
  have r2 := hR1.cell 2
  have r3 := hR1.cell 3
  have r4 := hR1.cell 4
  have rf := hR1.free
  simp at p0 p1 p4 p5 r0 r1 r2 r3 r4
  have hn1 : n + 1 < w1.heap.size := hR1.inside
  have hw1' := Lib.hid hw1
  have hn' := Lib.hid hn
  have hR' := Lib.hid hR1
  have hB' := Lib.hid hB1
  clear hw1 hn hP1 hR1 hB1
  go_enter Try.func39, Try.ntmps39
  go_upto_region 1 with fail
  first | rw [hw1'.out] | (simp only [hn'.out]; rw [hw1'.out])
  try simp only [hn'.out]
  go_wp2
  refine bodyPost_ret (res_vi1 rfl rfl (by exact put5 hR'.out)) rfl ?_
  refine ⟨rfl, ?_⟩
  rw [hn'.out]
  exact ((((hB'.out.setCell (by simp) _).setCell (by simp) _).setCell (by simp) _).setCell (by simp) _).setCell (by simp) _

set_option maxRecDepth 100000 in
set_option maxHeartbeats 2000000 in
theorem visit_stop (v : Vh) (vl vt : Value) (l : List (Int × Int)) (t : List Rq) (k : Nat) (s : Int × Int) (hs : l[k]? = some s) (w : World) (hL : Row w.heap.size w vl l) (hT : Rqs w.heap.size w vt t) (hv : ∃ x, visO t s = some x) :
    Calls Try.prog 39 #[.agg #[.int .i64 v.hx, .int .i64 v.hy, .int .i64 v.cp, .int .i64 v.st, .int .i64 v.en, vl, vt], .int .i64 k] w fun e w' =>
      e = .returned (.agg #[.int .i64 (visV t s).px, .int .i64 (visV t s).py, .int .i64 (visV t s).we, .int .i64 (visV t s).wl, .int .i64 (visV t s).sv]) ∧ Below w.heap.size w w' := by
  obtain ⟨xl, Nl, capl, rfl, hNl, hl0, hlc1, hlc2⟩ := hL.opened
  obtain ⟨xt, Nt, capt, rfl, hNt0, htc1, htc2, ht0⟩ := hT.opened
  have hk : k < Nl := by rw [← hNl]; exact (List.getElem?_eq_some_iff.1 hs).1
  have hkN : ((k : Int) == (Nl : Int)) = false := by simp; omega
  have hk2 : ((k : Int) < (Nl : Int)) := by omega
  unfold maxLen at hlc2 htc2
  obtain ⟨x, hx⟩ := hv
  obtain ⟨q, hq, hr0, hr1, hsv, hxx⟩ := visO_some hx
  rw [(vis_some hx).1]
  obtain ⟨s1, s2⟩ := s
  obtain ⟨r, hr⟩ : ∃ r : Nat, s1 = r := ⟨s1.toNat, by simp at hr0; omega⟩
  simp only at hr0 hr1 hq
  subst hr
  simp only [Int.toNat_natCast] at hq
  have hrN : r < Nt := by omega
  have hrN2 : ((r : Int) < (Nt : Int)) := by omega
  obtain ⟨n, hn⟩ : ∃ n, w.heap.size = n := ⟨_, rfl⟩
  obtain ⟨w1, hw1⟩ : ∃ w1, (w.alloc (.cells #[.int .i64 v.hx, .int .i64 v.hy, .int .i64 v.cp, .int .i64 v.st, .int .i64 v.en, .slice xl Nl capl, .slice xt Nt capt] 76)).alloc (.cells #[.int .i64 0, .int .i64 0, .int .i64 0, .int .i64 0, .int .i64 0] 101) = w1 := ⟨_, rfl⟩
  have hP1 : At w1 n 76 #[.int .i64 v.hx, .int .i64 v.hy, .int .i64 v.cp, .int .i64 v.st, .int .i64 v.en, .slice xl Nl capl, .slice xt Nt capt] := by rw [← hw1]; exact (At.new_ _ _ _ hn.symm).alloc _
  have hR1 : At w1 (n + 1) 101 #[.int .i64 0, .int .i64 0, .int .i64 0, .int .i64 0, .int .i64 0] := by rw [← hw1]; exact At.new_ _ _ _ (by simp [hn])
  have hB1 : Below n w w1 := by rw [← hw1]; exact ((Below.refl _ _).alloc (by omega) _).alloc (by simp; omega) _
  have hL1 : Row n w1 (.slice xl Nl capl) l := by rw [hn] at hL; exact hL.keep hB1 (Nat.le_refl _)
  have hT1 : Rqs n w1 (.slice xt Nt capt) t := by rw [hn] at hT; exact hT.keep hB1 (Nat.le_refl _)
  obtain ⟨g, o, rfl, hg, c0, c1⟩ := Row.stop hL1 hs
  have hs1 : w1.heap.size = n + 2 := by rw [← hw1, ← hn]; simp
  obtain ⟨w2, hw2⟩ : ∃ w2, w1.alloc (.cells #[.int .i64 (r : Int), .int .i64 s2] 58) = w2 := ⟨_, rfl⟩
  have hS2 : At w2 (n + 2) 58 #[.int .i64 (r : Int), .int .i64 s2] := by rw [← hw2]; exact At.new_ _ _ _ hs1.symm
  have hP2 : At w2 n 76 #[.int .i64 v.hx, .int .i64 v.hy, .int .i64 v.cp, .int .i64 v.st, .int .i64 v.en, .slice (some ⟨g, o, none⟩) Nl capl, .slice xt Nt capt] := by rw [← hw2]; exact hP1.alloc _
  have hR2 : At w2 (n + 1) 101 #[.int .i64 0, .int .i64 0, .int .i64 0, .int .i64 0, .int .i64 0] := by rw [← hw2]; exact hR1.alloc _
  have hB2 : Below n w w2 := by rw [← hw2]; exact hB1.alloc (by omega) _
  have hT2 : Rqs n w2 (.slice xt Nt capt) t := by rw [hn] at hT; exact hT.keep hB2 (Nat.le_refl _)
  have hs2 : w2.heap.size = n + 3 := by rw [← hw2]; simp [hs1]
  have hpl := Place_any (r : Int) s2 _ t w2 (hT2.more (by omega))
  rw [(vis_some hx).1, (vis_some hx).2] at hpl
  have hwi := fun w' (hb : Below w2.heap.size w2 w') => Window_any (r : Int) s2 _ t w' ((hT2.more (C := w2.heap.size) (by omega)).on hb)
  rw [(vis_some hx).1, (vis_some hx).2] at hwi
  obtain ⟨px, py, we, wl, sv⟩ := x
  simp only at hsv hpl hwi ⊢
  subst hsv
  have p5 := hP1.cell 5
  have p6 := hP1.cell 6
  have q6 := hP2.cell 6
  have z0 := hS2.cell 0
  have z1 := hS2.cell 1
  simp at p5 p6 q6 z0 z1
  have hn1 : n + 1 < w1.heap.size := by omega
  have hq' := Lib.hid hq
  have hw1' := Lib.hid hw1
  have hw2' := Lib.hid hw2
  have hn' := Lib.hid hn
  have hT2' := Lib.hid hT2
  have hwi' := Lib.hid hwi
  have hs2' := Lib.hid hs2
  have hs1' := Lib.hid hs1
  have hin2 := hR2.inside
  have hin3 := hS2.inside
  clear hw1 hw2 hn hL hT hL1 hT1 hT2 hs hx hxx hq hwi hs2 hs1 hl0 ht0 hNl hNt0 hR1 hP1
  go_enter Try.func39, Try.ntmps39
  go_upto_region 1 with fail
  first | rw [hw1'.out] | (simp only [hn'.out]; rw [hw1'.out])
  try simp only [hn'.out]
  go_upto_region 4 with fail
  simp only [hs1'.out]
  rw [hw2'.out]
  clear c0 c1 p5 p6
  go_wp2_with fail
  refine hpl.mono ?_
  clear hpl
  rintro e w3 ⟨rfl, hb3⟩
  obtain ⟨m, hm⟩ : ∃ m, w3.heap.size = m := ⟨_, rfl⟩
  obtain ⟨w4, hw4⟩ : ∃ w4, w3.alloc (.cells #[.int .i64 px, .int .i64 py] 29) = w4 := ⟨_, rfl⟩
  have hb34 : Below w3.heap.size w3 w4 := by rw [← hw4]; exact (Below.refl _ _).alloc (Nat.le_refl _) _
  have hb24 : Below w2.heap.size w2 w4 := hb3.trans (hb34.mono hb3.size)
  have hm3 : n + 3 ≤ m := by have := hb3.size; rw [hs2'.out] at this; omega
  have hO4 : At w4 m 29 #[.int .i64 px, .int .i64 py] := by rw [← hw4]; exact At.new_ _ _ _ hm.symm
  have hS4 := hS2.keep hb24 hin3
  have hP4 := hP2.keep hb24 (by rw [hs2'.out]; omega)
  have hR4 := hR2.keep hb24 hin2
  have hT4 := hT2'.out.keep hb24 (by rw [hs2'.out]; omega)
  have hB4 := hB2.trans (hb24.mono (by rw [hs2'.out]; omega))
  have hwi := hwi'.out _ hb24
  have q6 := hP4.cell 6
  have z0 := hS4.cell 0
  have z1 := hS4.cell 1
  simp at q6 z0 z1
  have hm4 : m < w4.heap.size := hO4.inside
  have hw4' := Lib.hid hw4
  have hm' := Lib.hid hm
  clear hb3 hb34 hb24 hS2 hP2 hR2 hB2 hw4 hm
  go_upto_region 5 with fail
  try simp only [hm'.out]
  rw [hw4'.out]
  go_wp2_with fail
  refine hwi.mono ?_
  clear hwi
  rintro e w5 ⟨rfl, hb5⟩
  obtain ⟨m5, hm5⟩ : ∃ m, w5.heap.size = m := ⟨_, rfl⟩
  obtain ⟨w6, hw6⟩ : ∃ w6, w5.alloc (.cells #[.int .i64 we, .int .i64 wl] 39) = w6 := ⟨_, rfl⟩
  have hb56 : Below w5.heap.size w5 w6 := by rw [← hw6]; exact (Below.refl _ _).alloc (Nat.le_refl _) _
  have hb46 : Below w4.heap.size w4 w6 := hb5.trans (hb56.mono hb5.size)
  have hI6 : At w6 m5 39 #[.int .i64 we, .int .i64 wl] := by rw [← hw6]; exact At.new_ _ _ _ hm5.symm
  have hmm : m < m5 := by have := hb5.size; omega
  have hO6 := hO4.keep hb46 hm4
  have hS6 := hS4.keep hb46 (by omega)
  have hP6 := hP4.keep hb46 (by omega)
  have hR6 := hR4.keep hb46 (by omega)
  have hT6 := hT4.keep hb46 (by omega)
  have hB6 := hB4.trans (hb46.mono (by omega))
  obtain ⟨gt, ot, rfl, hgt, d0, d1, d2, d3, d4, d5, d6, d7, d8, d9⟩ := hT6.at hq'.out
  have o0 := hO6.cell 0
  have o1 := hO6.cell 1
  have i0 := hI6.cell 0
  have i1 := hI6.cell 1
  have t6 := hP6.cell 6
  have s0 := hS6.cell 0
  have r0 := hR6.cell 0
  have r1 := hR6.cell 1
  have r2 := hR6.cell 2
  have r3 := hR6.cell 3
  have r4 := hR6.cell 4
  have rf := hR6.free
  simp at o0 o1 i0 i1 t6 s0 r0 r1 r2 r3 r4
  have hk6 : n + 1 < w6.heap.size := hR6.inside
  have hw6' := Lib.hid hw6
  have hm5' := Lib.hid hm5
  have hR' := Lib.hid hR6
  have hB' := Lib.hid hB6
  clear hw6 hm5 hb5 hb56 hb46 hO4 hS4 hP4 hR4 hT4 hB4 hO6 hI6 hS6 hP6 hR6 hT6 hB6 q6 z0 z1 d0 d1 d2 d3 d4 d5 d6 d7 d8
  go_upto_region 6 with fail
  try simp only [hm5'.out]
  rw [hw6'.out]
  have ko0 := cell_regrown o0
  have ko1 := cell_regrown o1
  have ki0 := cell_regrown i0
  have ki1 := cell_regrown i1
  have kt6 := cell_regrown t6
  have ks0 := cell_regrown s0
  have kd9 := cell_regrown d9
  refine wp_region_below_tail 10 (by kernel_rfl) (by kernel_rfl) (by kernel_rfl) ?_
  simp only [List.take_succ_cons, List.take_zero, List.drop_succ_cons, List.drop_zero]
  repeat (go_big_quiet_step (fail))
  refine wpQuiet_nil ?_
  intro _ hw'
  obtain ⟨⟨dq, osq⟩, hw''⟩ := hw'
  subst hw''
  have hb8 := below_regrown w6 dq osq
  have hR8 := hR'.out.keep hb8 hR'.out.inside
  have hB8 := hB'.out.trans (hb8.mono (by omega))
  clear ko0 ko1 ki0 ki1 kt6 ks0 kd9 o0 o1 i0 i1 t6 s0 d9 hb8 r0 r1 r2 r3 r4 rf
  generalize grow (redrawn w6 dq) osq = w8 at *
  have r0 := hR8.cell 0
  have r1 := hR8.cell 1
  have r2 := hR8.cell 2
  have r3 := hR8.cell 3
  have r4 := hR8.cell 4
  have rf := hR8.free
  simp at r0 r1 r2 r3 r4
  have hR'' := Lib.hid hR8
  have hB'' := Lib.hid hB8
  clear hR8 hB8
  go_wp2
  refine bodyPost_ret (res_vi1 rfl rfl (by exact put5 hR''.out)) rfl ?_
  refine ⟨rfl, ?_⟩
  rw [hn'.out]
  exact ((((hB''.out.setCell (by simp) _).setCell (by simp) _).setCell (by simp) _).setCell (by simp) _).setCell (by simp) _

/-- The k-th visit, or home. -/
theorem visit_any (v : Vh) (vl vt : Value) (l : List (Int × Int)) (t : List Rq) (k : Nat) (hk : k ≤ l.length) (w : World) (hL : Row w.heap.size w vl l) (hT : Rqs w.heap.size w vt t) (hv : AllIn t l) :
    Calls Try.prog 39 #[.agg #[.int .i64 v.hx, .int .i64 v.hy, .int .i64 v.cp, .int .i64 v.st, .int .i64 v.en, vl, vt], .int .i64 k] w fun e w' =>
      e = .returned (.agg #[.int .i64 (visN v t l k).px, .int .i64 (visN v t l k).py, .int .i64 (visN v t l k).we, .int .i64 (visN v t l k).wl, .int .i64 (visN v t l k).sv]) ∧ Below w.heap.size w w' := by
  rcases Nat.lt_or_ge k l.length with h | h
  · have hs : l[k]? = some l[k] := List.getElem?_eq_getElem h
    rw [visN_at hs]
    exact visit_stop v vl vt l t k _ hs w hL hT (hv _ (List.mem_of_getElem? hs))
  · obtain rfl : k = l.length := by omega
    obtain ⟨xl, Nl, capl, rfl, hNl, _⟩ := hL.opened
    rw [visN_home]
    subst hNl
    exact visit_home v xl l.length capl vt w

theorem distCall (ax ay bx by_ D : Int) (hD : Place.distV (ax, ay) (bx, by_) = D) (w : World) : Calls Try.prog 36 #[.agg #[.int .i64 ax, .int .i64 ay], .agg #[.int .i64 bx, .int .i64 by_]] w fun e w' => e = .returned (.int .i64 D) ∧ Below w.heap.size w w' := by
  rw [← hD]; exact Place.Dist_any _ _ _ _ _

set_option maxRecDepth 100000 in
set_option maxHeartbeats 2000000 in
theorem onward_any (v : Vh) (vl vt : Value) (l : List (Int × Int)) (t : List Rq) (k : Nat) (hk : k < l.length) (hl : l.length ≤ 1000000) (w : World) (hL : Row w.heap.size w vl l) (hT : Rqs w.heap.size w vt t) (hv : AllIn t l) :
    Calls Try.prog 41 #[.agg #[.int .i64 v.hx, .int .i64 v.hy, .int .i64 v.cp, .int .i64 v.st, .int .i64 v.en, vl, vt], .int .i64 k] w fun e w' =>
      e = .returned (.int .i64 (wy (visN v t l k) (visN v t l (k + 1)))) ∧ Below w.heap.size w w' := by
  have hA := fun (W : World) (hb : Below w.heap.size w W) => visit_any v vl vt l t k (by omega) W (hL.on hb) (hT.on hb) hv
  have hC := fun (W : World) (hb : Below w.heap.size w W) => visit_any v vl vt l t (k + 1) (by omega) W (hL.on hb) (hT.on hb) hv
  have hD := distCall (visN v t l k).px (visN v t l k).py (visN v t l (k + 1)).px (visN v t l (k + 1)).py _ rfl
  unfold wy
  generalize visN v t l k = x at *
  generalize visN v t l (k + 1) = y at *
  generalize Place.distV (x.px, x.py) (y.px, y.py) = D at *
  obtain ⟨px, py, we, wl, sv⟩ := x
  obtain ⟨qx, qy, ve, vl2, tv⟩ := y
  simp only at hA hC hD ⊢
  simp only [Int.natCast_add, Int.cast_ofNat_Int] at hC
  have hk1 : (k : Int) ≤ 1000000 := by omega
  have hf1 : ∀ W, (Instr.field 101 (.agg #[.int .i64 px, .int .i64 py, .int .i64 we, .int .i64 wl, .int .i64 sv]) 0).run Try.prog W = .ok (.agg #[.int .i64 px, .int .i64 py]) W := fun _ => by kernel_rfl
  have hf2 : ∀ W, (Instr.field 101 (.agg #[.int .i64 qx, .int .i64 qy, .int .i64 ve, .int .i64 vl2, .int .i64 tv]) 0).run Try.prog W = .ok (.agg #[.int .i64 qx, .int .i64 qy]) W := fun _ => by kernel_rfl
  obtain ⟨w1, hw1⟩ : ∃ w1, w.alloc (.cells #[.int .i64 v.hx, .int .i64 v.hy, .int .i64 v.cp, .int .i64 v.st, .int .i64 v.en, vl, vt] 76) = w1 := ⟨_, rfl⟩
  have hP := At.new w 76 #[.int .i64 v.hx, .int .i64 v.hy, .int .i64 v.cp, .int .i64 v.st, .int .i64 v.en, vl, vt]
  rw [hw1] at hP
  have hb0 : Below w.heap.size w w1 := by rw [← hw1]; exact (Below.refl _ _).alloc (Nat.le_refl _) _
  have hs0 : w.heap.size ≤ w1.heap.size := hb0.size
  have hAq := fun d os => Calls.regrown_of (hA (grow (redrawn w1 d) os) (hb0.trans ((below_regrown w1 d os).mono hs0)))
  have hCq := fun d os => Calls.regrown_of (hC (grow (redrawn w1 d) os) (hb0.trans ((below_regrown w1 d os).mono hs0)))
  have hDq := fun d os => Calls.regrown_of (hD (grow (redrawn w1 d) os))
  have p0 := hP.cell 0
  have p1 := hP.cell 1
  have p2 := hP.cell 2
  have p3 := hP.cell 3
  have p4 := hP.cell 4
  have p5 := hP.cell 5
  have p6 := hP.cell 6
  simp at p0 p1 p2 p3 p4 p5 p6
  have k0 := cell_regrown p0
  have k1 := cell_regrown p1
  have k2 := cell_regrown p2
  have k3 := cell_regrown p3
  have k4 := cell_regrown p4
  have k5 := cell_regrown p5
  have k6 := cell_regrown p6
  have hw1' := Lib.hid hw1
  have hb0' := Lib.hid hb0
  clear hL hT hA hC hD hb0 hw1 hP hv
  go_enter Try.func41, Try.ntmps41
  go_upto_region 1 with fail
  rw [hw1'.out]
  refine wp_region_quiet_below (by kernel_rfl) (by kernel_rfl) ?_
  repeat (go_big_quiet_step (first | with_reducible exact hAq _ _ | with_reducible exact hCq _ _ | with_reducible exact hDq _ _))
  refine wpQuiet_nil ?_
  intro _ hw'
  obtain ⟨⟨dq, osq⟩, hw''⟩ := hw'
  subst hw''
  have hb4 := hb0'.out.trans ((below_regrown w1 dq osq).mono hs0)
  go_wp2
  go_ret
  exact ⟨rfl, hb4⟩

end Go.Proofs.Ytfoflfeaegfnnaa.Slack

/-
  SchedKnown returns true, whatever memory is: the chapter's examples, which error comes first, and windows that are just met. No condition.
-/
import Derived.Test.YtphpkcndaifoiaaWhenWorks2
import Derived.Test.YtphpkcndaifoiaaRouteLen
import Derived.Test.YtphpkcndaifoiaaWhenOpen
namespace Go.Proofs.Ytphpkcndaifoiaa.schedKnown
open Go.ChangeShapes Go.WideShapes Go.ChangeAt Go.RowKit Go.Sort Go.Proofs.Ytphpkcndaifoiaa.Mem Go.Proofs.Ytphpkcndaifoiaa.Route Go.Proofs.Ytphpkcndaifoiaa.When
set_option linter.unusedVariables false

theorem e1 : errT ⟨vC.hx, vC.hy, 0, vC.st, vC.en⟩ [] tC = 2 := by decide +kernel
theorem e2 : errT vC [] [⟨0, 0, 0, 0, 0, 0, 0, 0, 0, 0⟩] = 2 := by decide +kernel
theorem e3 : errT vC [(0, 0)] tC = 8 := by decide +kernel
theorem e4 : errT vC [(1, 0), (1, 1)] tC = 8 := by decide +kernel
theorem e5 : errT ⟨vC.hx, vC.hy, 0, vC.st, vC.en⟩ [(0, 1)] tC = 2 := by decide +kernel
theorem e6 : errT ⟨vC.hx, vC.hy, vC.cp, vC.st, 35⟩ lC tC = 0 ∧ homeT ⟨vC.hx, vC.hy, vC.cp, vC.st, 35⟩ lC tC = 35 := by decide +kernel
theorem e7 : errT ⟨vC.hx, vC.hy, vC.cp, 27, 100⟩ lC tC = 0 := by decide +kernel
theorem e8 : timesL ⟨vC.hx, vC.hy, vC.cp, 27, 100⟩ lC tC = [⟨30, 30, 32⟩, ⟨36, 36, 38⟩] := by decide +kernel
theorem e9 : errT ⟨vC.hx, vC.hy, 0, vC.st, vC.en⟩ lC tC = 2 ∧ wayT ⟨vC.hx, vC.hy, 0, vC.st, vC.en⟩ lC tC = 0 ∧ waitT ⟨vC.hx, vC.hy, 0, vC.st, vC.en⟩ lC tC = 0 ∧ servT ⟨vC.hx, vC.hy, 0, vC.st, vC.en⟩ lC tC = 0 := by decide +kernel
theorem v1 : visB tC (-1, 0) = false := by decide +kernel
theorem v2 : visB tC (0, 2) = false := by decide +kernel
theorem nums1 (a b : Int) (h : I64 a ∧ I64 b) : Nums [(a, b)] := by
  intro s hs
  simp only [List.mem_cons, List.not_mem_nil, or_false] at hs
  subst hs
  exact h
theorem nums2 (a b c d : Int) (h : (I64 a ∧ I64 b) ∧ I64 c ∧ I64 d) : Nums [(a, b), (c, d)] := by
  intro s hs
  simp only [List.mem_cons, List.not_mem_nil, or_false] at hs
  rcases hs with rfl | rfl
  · exact h.1
  · exact h.2
theorem i64_small {a : Int} (h1 : -10 ≤ a) (h2 : a ≤ 10) : I64 a := ⟨by omega, by omega⟩

/-- What is known between two calls. -/
structure Now (w0 W : World) (n m g o gt ot cl ct gw : Nat) : Prop where
  veh : At W n 30 #[.int .i64 vC.hx, .int .i64 vC.hy, .int .i64 vC.cp, .int .i64 vC.st, .int .i64 vC.en]
  bad : At W m 30 #[.int .i64 vC.hx, .int .i64 vC.hy, .int .i64 0, .int .i64 vC.st, .int .i64 vC.en]
  row : Row W.heap.size W (.slice (some ⟨g, o, none⟩) 2 cl) lC
  rqs : Rqs W.heap.size W (.slice (some ⟨gt, ot, none⟩) 1 ct) tC
  worse : Rqs W.heap.size W (.slice (some ⟨gw, 0, none⟩) 1 1) [⟨0, 0, 0, 0, 0, 0, 0, 0, 0, 0⟩]
  below : Below w0.heap.size w0 W
theorem Now.on {w0 W W' : World} {n m g o gt ot cl ct gw : Nat} (h : Now w0 W n m g o gt ot cl ct gw) (hb : Below W.heap.size W W') : Now w0 W' n m g o gt ot cl ct gw :=
  ⟨h.veh.keep hb h.veh.inside, h.bad.keep hb h.bad.inside, h.row.on hb, h.rqs.on hb, h.worse.on hb, h.below.trans (hb.mono h.below.size)⟩
theorem Now.alloc {w0 W : World} {n m g o gt ot cl ct gw : Nat} (h : Now w0 W n m g o gt ot cl ct gw) (ob : Obj) : Now w0 (W.alloc ob) n m g o gt ot cl ct gw := h.on ((Below.refl _ _).alloc (Nat.le_refl _) _)

set_option maxRecDepth 100000 in
set_option maxHeartbeats 1500000 in
theorem walk (w : World) : Calls Try.prog 6 #[] w fun e w' => e = .returned (.bool true) ∧ Below w.heap.size w w' := by
  go_enter Try.func6, Try.ntmps6
  go_wp2_with fail
  refine (chapter_any w).mono ?_
  rintro e w1 ⟨⟨ul, ut, rfl, hL, hT⟩, hB1⟩
  obtain ⟨xl, Nl, cl, rfl, hNl, _, hcl1, hcl2⟩ := hL.opened
  obtain ⟨xt, Nt, ct, rfl, hNt, hct1, hct2, _⟩ := hT.opened
  obtain rfl : Nl = 2 := hNl.out.symm
  obtain rfl : Nt = 1 := hNt.symm
  obtain ⟨g, o, rfl, hg, _, _⟩ := Row.stop hL (k := 0) rfl
  obtain ⟨gt, ot, rfl, hgt, _⟩ := Rqs.at hT (k := 0) rfl
  obtain ⟨n, hn⟩ : ∃ n, w1.heap.size = n := ⟨_, rfl⟩
  obtain ⟨w2, hw2⟩ : ∃ w2, ((w1.alloc (.cells #[.int .i64 vC.hx, .int .i64 vC.hy, .int .i64 vC.cp, .int .i64 vC.st, .int .i64 vC.en] 30)).alloc (.cells #[.int .i64 0, .int .i64 0, .int .i64 0, .int .i64 0, .int .i64 0, .int .i64 0, .int .i64 0, .int .i64 0, .int .i64 0, .int .i64 0] 56)).alloc (.cells #[.int .i64 vC.hx, .int .i64 vC.hy, .int .i64 0, .int .i64 vC.st, .int .i64 vC.en] 30) = w2 := ⟨_, rfl⟩
  have hN : Now w w2 n (n + 2) g o gt ot cl ct (n + 1) := by
    have hb : Below w1.heap.size w1 w2 := by rw [← hw2]; exact (((Below.refl _ _).alloc (Nat.le_refl _) _).alloc (by simp) _).alloc (by simp; omega) _
    refine ⟨?_, ?_, hL.on hb, hT.on hb, Rqs.laid1 ?_, hB1.trans (hb.mono hB1.size)⟩
    · rw [← hw2]; exact ((At.new_ _ _ _ hn.symm).alloc _).alloc _
    · rw [← hw2]; exact At.new_ _ _ _ (by simp [hn])
    · rw [← hw2]; exact (At.new_ _ _ _ (by simp [hn])).alloc _
  have hN' := Lib.hid hN
  have hnn := Lib.hid hn
  have hw2' := Lib.hid hw2
  have hs2 : n + 2 < w2.heap.size := hN.bad.inside
  clear hL hT hB1 hNl hg hgt hN hn hw2
  go_upto_region 4 with fail
  rw [hw2'.out]
  rw [hnn.out]
  clear hw2' hnn
  have p0 := hN'.out.veh.cell 0
  have p1 := hN'.out.veh.cell 1
  have p2 := hN'.out.veh.cell 2
  have p3 := hN'.out.veh.cell 3
  have p4 := hN'.out.veh.cell 4
  simp at p0 p1 p2 p3 p4
  have q0 := hN'.out.bad.cell 0
  have q1 := hN'.out.bad.cell 1
  have q2 := hN'.out.bad.cell 2
  have q3 := hN'.out.bad.cell 3
  have q4 := hN'.out.bad.cell 4
  simp at q0 q1 q2 q3 q4
  have hsn : n < _ := hN'.out.veh.inside
  have hsm : n + 2 < _ := hN'.out.bad.inside
  have hc := Times_err ⟨vC.hx, vC.hy, 0, vC.st, vC.en⟩ (.slice none 0 0) (.slice (some ⟨gt, ot, none⟩) 1 ct) [] tC (by decide) nil_nums 2 e1 (by decide) _ (RowB.nil _ _ 2) hN'.out.rqs
  go_wp2_with fail
  refine hc.mono ?_
  clear hc
  clear p0 p1 p2 p3 p4 q0 q1 q2 q3 q4 hsn hsm
  rintro e w3 ⟨rfl, hb⟩
  have hN_w3 := Lib.hid (hN'.out.on hb)
  clear hb hN'
  have p0 := hN_w3.out.veh.cell 0
  have p1 := hN_w3.out.veh.cell 1
  have p2 := hN_w3.out.veh.cell 2
  have p3 := hN_w3.out.veh.cell 3
  have p4 := hN_w3.out.veh.cell 4
  simp at p0 p1 p2 p3 p4
  have q0 := hN_w3.out.bad.cell 0
  have q1 := hN_w3.out.bad.cell 1
  have q2 := hN_w3.out.bad.cell 2
  have q3 := hN_w3.out.bad.cell 3
  have q4 := hN_w3.out.bad.cell 4
  simp at q0 q1 q2 q3 q4
  have hsn : n < _ := hN_w3.out.veh.inside
  have hsm : n + 2 < _ := hN_w3.out.bad.inside
  have hc := Times_err vC (.slice none 0 0) (.slice (some ⟨n + 1, 0, none⟩) 1 1) [] [⟨0, 0, 0, 0, 0, 0, 0, 0, 0, 0⟩] (by decide) nil_nums 2 e2 (by decide) _ (RowB.nil _ _ 2) hN_w3.out.worse
  go_wp2_with fail
  refine hc.mono ?_
  clear hc
  clear p0 p1 p2 p3 p4 q0 q1 q2 q3 q4 hsn hsm
  rintro e w4 ⟨rfl, hb⟩
  have hN_w4 := Lib.hid (hN_w3.out.on hb)
  clear hb hN_w3
  have hRo : Row w4.heap.size w4 (.slice (some ⟨g, o, none⟩) 1 cl) [(0, 0)] := by have := hN_w4.out.row.cutTo (k := 1) rfl (by decide); exact this
  have cT : ∀ d os, Calls Try.prog 8 #[.agg #[.int .i64 (vC : Vh).hx, .int .i64 (vC : Vh).hy, .int .i64 (vC : Vh).cp, .int .i64 (vC : Vh).st, .int .i64 (vC : Vh).en], (.slice (some ⟨g, o, none⟩) 1 cl), (.slice (some ⟨gt, ot, none⟩) 1 ct)] (grow (redrawn w4 d) os) fun e w' => e = .returned (.tuple #[.slice none 0 0, .int .i64 0, .int .i64 8]) ∧ Below (grow (redrawn w4 d) os).heap.size (grow (redrawn w4 d) os) w' :=
    fun d os => Times_err vC _ _ [(0, 0)] tC (by decide) (nums1 _ _ ⟨i64_small (by decide) (by decide), i64_small (by decide) (by decide)⟩) 8 e3 (by decide) _ (hRo.on (below_regrown _ d os)) (hN_w4.out.rqs.on (below_regrown _ d os))
  have kT := fun d os => Calls.regrown_of (cT d os)
  have p0 := hN_w4.out.veh.cell 0
  have p1 := hN_w4.out.veh.cell 1
  have p2 := hN_w4.out.veh.cell 2
  have p3 := hN_w4.out.veh.cell 3
  have p4 := hN_w4.out.veh.cell 4
  simp at p0 p1 p2 p3 p4
  have q0 := hN_w4.out.bad.cell 0
  have q1 := hN_w4.out.bad.cell 1
  have q2 := hN_w4.out.bad.cell 2
  have q3 := hN_w4.out.bad.cell 3
  have q4 := hN_w4.out.bad.cell 4
  simp at q0 q1 q2 q3 q4
  have hsn : n < _ := hN_w4.out.veh.inside
  have hsm : n + 2 < _ := hN_w4.out.bad.inside
  try dsimp only at kT
  have kp0 := cell_regrown p0
  have kp1 := cell_regrown p1
  have kp2 := cell_regrown p2
  have kp3 := cell_regrown p3
  have kp4 := cell_regrown p4
  clear cT hRo
  go_upto_region 6 with fail
  refine wp_region_quiet_below (by kernel_rfl) (by kernel_rfl) ?_
  repeat (go_big_quiet_step (first | with_reducible exact kT _ _))
  refine wpQuiet_nil ?_
  intro _ hw'
  obtain ⟨⟨dq, osq⟩, hw''⟩ := hw'
  subst hw''
  have hN_w5 := Lib.hid (hN_w4.out.on (below_regrown w4 dq osq))
  generalize grow (redrawn w4 dq) osq = w5 at *
  clear kT kp0 kp1 kp2 kp3 kp4 hN_w4
  clear p0 p1 p2 p3 p4 q0 q1 q2 q3 q4 hsn hsm
  have hrow : Row (w5.alloc (.cells #[.int .i64 1, .int .i64 0, .int .i64 1, .int .i64 1] 45)).heap.size (w5.alloc (.cells #[.int .i64 1, .int .i64 0, .int .i64 1, .int .i64 1] 45)) (.slice (some ⟨w5.heap.size, 0, none⟩) 2 2) [(1, 0), (1, 1)] := Row.laid2 (At.new _ _ _)
  have hNa := Lib.hid (hN_w5.out.alloc (.cells #[.int .i64 1, .int .i64 0, .int .i64 1, .int .i64 1] 45))
  have p0 := hN_w5.out.veh.cell 0
  have p1 := hN_w5.out.veh.cell 1
  have p2 := hN_w5.out.veh.cell 2
  have p3 := hN_w5.out.veh.cell 3
  have p4 := hN_w5.out.veh.cell 4
  simp at p0 p1 p2 p3 p4
  have q0 := hN_w5.out.bad.cell 0
  have q1 := hN_w5.out.bad.cell 1
  have q2 := hN_w5.out.bad.cell 2
  have q3 := hN_w5.out.bad.cell 3
  have q4 := hN_w5.out.bad.cell 4
  simp at q0 q1 q2 q3 q4
  have hsn : n < _ := hN_w5.out.veh.inside
  have hsm : n + 2 < _ := hN_w5.out.bad.inside
  have hc := Times_err vC (.slice (some ⟨w5.heap.size, 0, none⟩) 2 2) (.slice (some ⟨gt, ot, none⟩) 1 ct) [(1, 0), (1, 1)] tC (by decide) (nums2 _ _ _ _ ⟨⟨i64_small (by decide) (by decide), i64_small (by decide) (by decide)⟩, i64_small (by decide) (by decide), i64_small (by decide) (by decide)⟩) 8 e4 (by decide) _ hrow hNa.out.rqs
  clear hrow
  go_wp2_with fail
  refine hc.mono ?_
  clear hc
  clear p0 p1 p2 p3 p4 q0 q1 q2 q3 q4 hsn hsm
  rintro e w6 ⟨rfl, hb⟩
  have hN_w6 := Lib.hid (hNa.out.on hb)
  clear hb hNa hN_w5
  have hRo : Row w6.heap.size w6 (.slice (some ⟨g, o + 2, none⟩) 1 (cl - 1)) [(0, 1)] := by have := hN_w6.out.row.dropFrom (k := 1) rfl (by decide); rw [if_neg (by omega), Option.map_some, add_at] at this; exact this
  have cT : ∀ d os, Calls Try.prog 8 #[.agg #[.int .i64 (⟨vC.hx, vC.hy, 0, vC.st, vC.en⟩ : Vh).hx, .int .i64 (⟨vC.hx, vC.hy, 0, vC.st, vC.en⟩ : Vh).hy, .int .i64 (⟨vC.hx, vC.hy, 0, vC.st, vC.en⟩ : Vh).cp, .int .i64 (⟨vC.hx, vC.hy, 0, vC.st, vC.en⟩ : Vh).st, .int .i64 (⟨vC.hx, vC.hy, 0, vC.st, vC.en⟩ : Vh).en], (.slice (some ⟨g, o + 2, none⟩) 1 (cl - 1)), (.slice (some ⟨gt, ot, none⟩) 1 ct)] (grow (redrawn w6 d) os) fun e w' => e = .returned (.tuple #[.slice none 0 0, .int .i64 0, .int .i64 2]) ∧ Below (grow (redrawn w6 d) os).heap.size (grow (redrawn w6 d) os) w' :=
    fun d os => Times_err ⟨vC.hx, vC.hy, 0, vC.st, vC.en⟩ _ _ [(0, 1)] tC (by decide) (nums1 _ _ ⟨i64_small (by decide) (by decide), i64_small (by decide) (by decide)⟩) 2 e5 (by decide) _ (hRo.on (below_regrown _ d os)) (hN_w6.out.rqs.on (below_regrown _ d os))
  have kT := fun d os => Calls.regrown_of (cT d os)
  have p0 := hN_w6.out.veh.cell 0
  have p1 := hN_w6.out.veh.cell 1
  have p2 := hN_w6.out.veh.cell 2
  have p3 := hN_w6.out.veh.cell 3
  have p4 := hN_w6.out.veh.cell 4
  simp at p0 p1 p2 p3 p4
  have q0 := hN_w6.out.bad.cell 0
  have q1 := hN_w6.out.bad.cell 1
  have q2 := hN_w6.out.bad.cell 2
  have q3 := hN_w6.out.bad.cell 3
  have q4 := hN_w6.out.bad.cell 4
  simp at q0 q1 q2 q3 q4
  have hsn : n < _ := hN_w6.out.veh.inside
  have hsm : n + 2 < _ := hN_w6.out.bad.inside
  try dsimp only at kT
  have kq0 := cell_regrown q0
  have kq1 := cell_regrown q1
  have kq2 := cell_regrown q2
  have kq3 := cell_regrown q3
  have kq4 := cell_regrown q4
  clear cT hRo
  go_upto_region 8 with fail
  refine wp_region_quiet_below (by kernel_rfl) (by kernel_rfl) ?_
  repeat (go_big_quiet_step (first | with_reducible exact kT _ _))
  refine wpQuiet_nil ?_
  intro _ hw'
  obtain ⟨⟨dq, osq⟩, hw''⟩ := hw'
  subst hw''
  have hN_w7 := Lib.hid (hN_w6.out.on (below_regrown w6 dq osq))
  generalize grow (redrawn w6 dq) osq = w7 at *
  clear kT kq0 kq1 kq2 kq3 kq4 hN_w6
  clear p0 p1 p2 p3 p4 q0 q1 q2 q3 q4 hsn hsm
  have p0 := hN_w7.out.veh.cell 0
  have p1 := hN_w7.out.veh.cell 1
  have p2 := hN_w7.out.veh.cell 2
  have p3 := hN_w7.out.veh.cell 3
  have p4 := hN_w7.out.veh.cell 4
  simp at p0 p1 p2 p3 p4
  have q0 := hN_w7.out.bad.cell 0
  have q1 := hN_w7.out.bad.cell 1
  have q2 := hN_w7.out.bad.cell 2
  have q3 := hN_w7.out.bad.cell 3
  have q4 := hN_w7.out.bad.cell 4
  simp at q0 q1 q2 q3 q4
  have hsn : n < _ := hN_w7.out.veh.inside
  have hsm : n + 2 < _ := hN_w7.out.bad.inside
  have hJ : At (w7.alloc (.cells #[.int .i64 vC.hx, .int .i64 vC.hy, .int .i64 vC.cp, .int .i64 vC.st, .int .i64 35] 30)) w7.heap.size 30 #[.int .i64 vC.hx, .int .i64 vC.hy, .int .i64 vC.cp, .int .i64 vC.st, .int .i64 35] := At.new _ _ _
  have hBa : Below w7.heap.size w7 (w7.alloc (.cells #[.int .i64 vC.hx, .int .i64 vC.hy, .int .i64 vC.cp, .int .i64 vC.st, .int .i64 35] 30)) := (Below.refl _ _).alloc (Nat.le_refl _) _
  have hNa := hN_w7.out.on hBa
  have hc := Times_any ⟨vC.hx, vC.hy, vC.cp, vC.st, 35⟩ (.slice (some ⟨g, o, none⟩) 2 cl) (.slice (some ⟨gt, ot, none⟩) 1 ct) lC tC lC_len lC_nums _ hNa.row hNa.rqs
  rw [e6.1, e6.2] at hc
  have hJ' := Lib.hid hJ
  have hBa' := Lib.hid hBa
  clear hJ hBa hNa
  go_wp2_with fail
  refine hc.mono ?_
  clear hc
  clear p0 p1 p2 p3 p4 q0 q1 q2 q3 q4 hsn hsm
  rintro e w8 ⟨⟨u8, rfl, hu8⟩, hb⟩
  obtain ⟨x8, M8, c8, rfl, _, _, _, _⟩ := hu8.opened
  have hJ8 := hJ'.out.keep hb hJ'.out.inside
  have hB8 := hBa'.out.trans (hb.mono hBa'.out.size)
  obtain ⟨j, hj⟩ : ∃ j, w7.heap.size = j := ⟨_, rfl⟩
  rw [hj] at hJ8 hB8 ⊢
  have hB9 : Below w7.heap.size w7 ((w8.setCell ⟨j, 3, none⟩ (.int .i64 27)).setCell ⟨j, 4, none⟩ (.int .i64 100)) := by rw [hj]; exact (hB8.setCell (by simp) _).setCell (by simp) _
  have hN9 := hN_w7.out.on hB9
  have j0 := hJ8.cell 0
  have j1 := hJ8.cell 1
  have j2 := hJ8.cell 2
  have j3 := hJ8.cell 3
  have j4 := hJ8.cell 4
  simp at j0 j1 j2 j3 j4
  have jf := hJ8.free
  have hsj : j < w8.heap.size := hJ8.inside
  have hJ9 : At ((w8.setCell ⟨j, 3, none⟩ (.int .i64 27)).setCell ⟨j, 4, none⟩ (.int .i64 100)) j 30 #[.int .i64 vC.hx, .int .i64 vC.hy, .int .i64 vC.cp, .int .i64 27, .int .i64 100] := by simpa using (hJ8.put 3 (.int .i64 27)).put 4 (.int .i64 100)
  have hN_w9 := Lib.hid hN9
  have hc := Times_any ⟨vC.hx, vC.hy, vC.cp, 27, 100⟩ (.slice (some ⟨g, o, none⟩) 2 cl) (.slice (some ⟨gt, ot, none⟩) 1 ct) lC tC lC_len lC_nums _ hN9.row hN9.rqs
  rw [e7, e8] at hc
  clear hb hJ' hBa' hJ8 hB8 hB9 hN9 hN_w7 hu8 hj hJ9
  go_wp2_with fail
  refine hc.mono ?_
  clear hc j0 j1 j2 j3 j4 jf hsj
  rintro e w10 ⟨⟨u, rfl, hu⟩, hb⟩
  obtain ⟨x, M, c9, rfl, hM, _, _, _⟩ := hu.opened
  obtain rfl : M = 2 := hM.symm
  obtain ⟨gx, ox, rfl, hgx, _⟩ := Tms.at hu (k := 0) rfl
  have hN_w10 := Lib.hid (hN_w9.out.on hb)
  have hu' := Lib.hid hu
  clear hb hN_w9 hM hu hgx
  have hc := Place_any (-1) 0 (.slice (some ⟨gt, ot, none⟩) 1 ct) tC w10 hN_w10.out.rqs
  rw [v1] at hc
  go_wp2_with fail
  refine hc.mono ?_
  clear hc
  rintro e w11 ⟨rfl, hb⟩
  have hba := hb.alloc hb.size (.cells #[.int .i64 (visV tC (-1, 0)).px, .int .i64 (visV tC (-1, 0)).py] 28)
  have hN_w11 := Lib.hid (hN_w10.out.on hba)
  have hu11 := Lib.hid (hu'.out.on hba)
  have hc := Window_any 0 2 (.slice (some ⟨gt, ot, none⟩) 1 ct) tC _ hN_w11.out.rqs
  rw [v2] at hc
  clear hb hba hN_w10 hu'
  go_wp2_with fail
  refine hc.mono ?_
  clear hc
  rintro e w12 ⟨rfl, hb⟩
  have hba := hb.alloc hb.size (.cells #[.int .i64 (visV tC (0, 2)).we, .int .i64 (visV tC (0, 2)).wl] 47)
  have hN_w12 := hN_w11.out.on hba
  have hu12 := Lib.hid (hu11.out.on hba)
  have hc := Spent_any ⟨vC.hx, vC.hy, 0, vC.st, vC.en⟩ (.slice (some ⟨g, o, none⟩) 2 cl) (.slice (some ⟨gt, ot, none⟩) 1 ct) lC tC lC_len lC_nums _ hN_w12.row hN_w12.rqs
  rw [e9.1, e9.2.1, e9.2.2.1, e9.2.2.2] at hc
  have hN_w12' := Lib.hid hN_w12
  have q0 := (hN_w12.bad.keep (Below.refl _ _) hN_w12.bad.inside).cell 0
  have q1 := (hN_w12.bad.keep (Below.refl _ _) hN_w12.bad.inside).cell 1
  have q2 := (hN_w12.bad.keep (Below.refl _ _) hN_w12.bad.inside).cell 2
  have q3 := (hN_w12.bad.keep (Below.refl _ _) hN_w12.bad.inside).cell 3
  have q4 := (hN_w12.bad.keep (Below.refl _ _) hN_w12.bad.inside).cell 4
  have hsm : n + 2 < _ := hN_w12.bad.inside
  simp at q0 q1 q2 q3 q4
  clear hb hba hN_w11 hu11 hN_w12
  go_wp2_with fail
  refine hc.mono ?_
  clear hc q0 q1 q2 q3 q4 hsm
  rintro e w13 ⟨rfl, hb⟩
  have hN_w13 := Lib.hid (hN_w12'.out.below.trans (hb.mono hN_w12'.out.below.size))
  have hu13 := Lib.hid (hu12.out.on hb)
  clear hb hN_w12' hu12
  go_wp2_with fail
  refine (works_any w13).mono ?_
  rintro e w14 ⟨rfl, hb⟩
  have hB := Lib.hid (hN_w13.out.trans (hb.mono hN_w13.out.size))
  obtain ⟨_, _, eg, hg14, c0, c1, c2⟩ := Tms.at (hu13.out.on hb) (k := 0) rfl
  simp only [Option.some.injEq, Addr.mk.injEq] at eg
  obtain ⟨rfl, rfl, _⟩ := eg
  simp at c0 c1 c2
  clear hb hN_w13 hu13
  go_wp2
  go_ret
  exact ⟨rfl, hB.out⟩

set_option maxRecDepth 100000 in
theorem lifted (os : Os) (started : os.Started) (H : Type) (enc : TypeId × Value → H) :
    ReturnsInHanded {} Try.checked os 6 .any (Rows.schedKnownSpec.pre6 enc Try.prog Try.f6 Rows.schedKnownRow.domain false) (Rows.schedKnownSpec.post enc Try.prog Try.f6 false true false false) := by
  refine returnsInHanded_of_change (C := Try.checked) own started (by kernel_rfl) Try.func6
    (ChangeSpec.witness6 (enc := enc) (C := Try.checked) false ⟨#[], #[], []⟩ 8 (by kernel_rfl) (by kernel_rfl) (by kernel_rfl) (by kernel_rfl)) ?_
  intro W base args ds gs before hval0 hW hcnd _
  have hW' := hW
  obtain ⟨p, q, hA0, hV, rfl, hfz, hnd⟩ := hW
  have hA : DataW.TrodAll enc Try.prog W 0 (fun _ => true) true Try.f6.params.toList args.toList ds p := hA0
  rw [Try.params6] at hA
  obtain ⟨rfl, rfl, rfl⟩ := trodAll_none hA
  obtain ⟨rfl, rfl⟩ := trodVars_none hV
  exact (walk W).mono fun e W' ⟨he, hb⟩ => ⟨_, he, Close.law_post laidOut (by kernel_rfl) rfl (by kernel_rfl) Try.underlying4 hW' rfl hb⟩

theorem over : Rows.schedKnownRow.holds Try.pinned (OpenSpec.ofChange Rows.schedKnownSpec) :=
  OpenClaim.holds_of_wide 6 Try.f6 rfl rfl rfl rfl rfl rfl rfl ⟨rfl, rfl, rfl, rfl, rfl⟩ rfl rfl rfl rfl rfl (by kernel_rfl) Try.func6 (by kernel_rfl)
    (of_decide_eq_true (by kernel_rfl)) (by unfold Func.isWrapper; first | (rw [if_pos (by decide +kernel)]; kernel_rfl) | (rw [if_neg (by decide +kernel)]; exact ⟨rfl, rfl⟩))
    (fun os started H enc _ => lifted os started H enc)

theorem proved : Rows.SchedKnownSaid := over
#print axioms proved

end Go.Proofs.Ytphpkcndaifoiaa.schedKnown

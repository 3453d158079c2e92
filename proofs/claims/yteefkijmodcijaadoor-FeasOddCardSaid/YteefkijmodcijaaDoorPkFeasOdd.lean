import Derived.Test.YteefkijmodcijaaDoorPkFeasAlike
import Derived.Test.YteefkijmodcijaaDoorPkFeasRefR
import Derived.Test.YteefkijmodcijaaDoorPkFeasArgs
import Derived.Test.YteefkijmodcijaaDoorPkFeasWorks2

/-
  FeasOdd returns true, whatever the vehicle, stops, requests, times and memory are. Its condition: errors.errorType holds its handle.
-/
namespace Go.Proofs.YteefkijmodcijaaDoor.feasOdd
open Go.RowKit Go.Sort Go.Proofs.YteefkijmodcijaaDoor.Mem Go.Proofs.YteefkijmodcijaaDoor.Route Go.Proofs.YteefkijmodcijaaDoor.When Go.Proofs.YteefkijmodcijaaDoor.Feas
set_option linter.unusedVariables false

theorem Nums.take {l : List (Int × Int)} (h : Nums l) (k : Nat) : Nums (l.take k) := fun s hs => h s (List.mem_of_mem_take hs)
set_option maxRecDepth 100000 in
set_option maxHeartbeats 8000000 in
theorem walk (v : Vh) (vl vt vs : Value) (l : List (Int × Int)) (t : List Rq) (ts : List Tm) (hnum : Nums l) (w : World) (hg : Hd w) (hL : Row w.heap.size w vl l) (hT : Rqs w.heap.size w vt t) (hS : Tms w.heap.size w vs ts) :
    Calls Tryd.prog 4 #[.agg #[.int .i64 v.hx, .int .i64 v.hy, .int .i64 v.cp, .int .i64 v.st, .int .i64 v.en], vl, vt, vs] w fun e w' => e = .returned (.bool true) ∧ Below w.heap.size w w' := by
  obtain ⟨xt, Nt, capt, rfl, hNt, htc1, htc2, ht0⟩ := hT.opened
  obtain ⟨xs, Ns, caps, rfl, hNs, hsc1, hsc2, hs0⟩ := hS.opened
  obtain ⟨xl, N, capl, rfl, hN', h0', hlc1, hlc2⟩ := hL.opened
  obtain ⟨q, hq⟩ : ∃ q, w.heap.size = q := ⟨_, rfl⟩
  have hq' := Lib.hid hq
  obtain ⟨w1, hw1⟩ : ∃ w1, w.alloc (.cells #[.int .i64 v.hx, .int .i64 v.hy, .int .i64 v.cp, .int .i64 v.st, .int .i64 v.en] 34) = w1 := ⟨_, rfl⟩
  have hV : At w1 q 34 #[.int .i64 v.hx, .int .i64 v.hy, .int .i64 v.cp, .int .i64 v.st, .int .i64 v.en] := by rw [← hw1]; exact At.new_ _ _ _ hq.symm
  have hB : Below w.heap.size w w1 := by rw [← hw1]; exact (Below.refl _ _).alloc (by omega) _
  have hw1' := Lib.hid hw1
  have hg1 := Lib.hid (hg.on hB)
  obtain ⟨K, hK1, hK2, hK3⟩ : ∃ K : Nat, min (N : Int) 30 = (K : Int) ∧ K ≤ N ∧ K ≤ 30 := ⟨min N 30, by omega, by omega, by omega⟩
  obtain ⟨Kt, hKt1, hKt2, hKt3⟩ : ∃ K : Nat, min (Nt : Int) 30 = (K : Int) ∧ K ≤ Nt ∧ K ≤ 30 := ⟨min Nt 30, by omega, by omega, by omega⟩
  obtain ⟨Ks, hKs1, hKs2, hKs3⟩ : ∃ K : Nat, min (Ns : Int) 30 = (K : Int) ∧ K ≤ Ns ∧ K ≤ 30 := ⟨min Ns 30, by omega, by omega, by omega⟩
  have hro := Lib.hid ((hL.cutTo hN'.out hK2).on hB)
  have hqr := Lib.hid ((Feas.Rqs.cutTo hT hNt hKt2).on hB)
  have hts := Lib.hid ((Feas.Tms.cutTo hS hNs hKs2).on hB)
  have hnu : Hid (Nums (l.take K)) := Lib.hid (Nums.take hnum K)
  have hlen : Hid ((l.take K).length ≤ 100) := Lib.hid (by rw [List.length_take]; omega)
  have hB' := Lib.hid hB
  have hqw : q < w1.heap.size := hV.inside
  have hc1 : K ≤ capl := by omega
  have hc2 : Kt ≤ capt := by omega
  have hc3 : Ks ≤ caps := by omega
  unfold maxLen at hlc2 htc2 hsc2
  generalize hA : l.take K = a at hro hnu hlen
  generalize hC : t.take Kt = c at hqr
  generalize hD : ts.take Ks = d at hts
  clear hT hNt ht0 hL h0' hw1 hq hB hg hnum hS hNs hs0 hN' hA hC hD
  go_enter Tryd.func4, Tryd.ntmps4
  go_upto_region 1 with fail
  simp only [hq'.out]
  rw [hw1'.out]
  go_quiet (fail)
  have hbn : Below w1.heap.size w1 (w1.drewN nq) := below_drewN (Below.refl _ _) nq
  have hV2 := hV.keep hbn hV.inside
  have hB2 := hB'.out.trans (hbn.mono hB'.out.size)
  have hg2 := Lib.hid (hg1.out.on hbn)
  have hro2 := Lib.hid (hro.out.on hbn)
  have hqr2 := Lib.hid (hqr.out.on hbn)
  have hts2 := Lib.hid (hts.out.on hbn)
  clear hV hbn hB' hro hqr hts hg1 hw1' hqw
  go_upto_region 2 with fail
  generalize w1.drewN nq = w2 at *
  have hs2 : w.heap.size ≤ w2.heap.size := hB2.size
  have cA := fun d os => Calls.regrown_of (alike_any v _ _ a c hlen.out hnu.out (grow (redrawn w2 d) os) (hg2.out.on (below_regrown w2 d os)) (hro2.out.on (below_regrown w2 d os)) (hqr2.out.on (below_regrown w2 d os)))
  have cN := fun d os => Calls.regrown_of (alike_any v (.slice none 0 0) _ [] c (by simp) (fun s hs => by cases hs) (grow (redrawn w2 d) os) (hg2.out.on (below_regrown w2 d os)) (RowB.nil _ _ _) (hqr2.out.on (below_regrown w2 d os)))
  obtain ⟨R, hR⟩ : ∃ R, rightB v a c d = R := ⟨_, rfl⟩
  obtain ⟨R0, hR0⟩ : ∃ R, rightB v [] c [] = R := ⟨_, rfl⟩
  have cR := fun e os => Calls.regrown_of (Right_any v _ _ _ a c d (by have := hlen.out; omega) hnu.out (grow (redrawn w2 e) os) (hro2.out.on (below_regrown w2 e os)) (hqr2.out.on (below_regrown w2 e os)) (hts2.out.on (below_regrown w2 e os)))
  have cR0 := fun e os => Calls.regrown_of (Right_any v (.slice none 0 0) _ (.slice none 0 0) [] c [] (by simp) (fun s hs => by cases hs) (grow (redrawn w2 e) os) (RowB.nil _ _ _) (hqr2.out.on (below_regrown w2 e os)) (RowB.nil _ _ _))
  have cr := fun e os => Calls.regrown_of (rRight_any v _ _ _ a c d hlen.out (grow (redrawn w2 e) os) (hro2.out.on (below_regrown w2 e os)) (hqr2.out.on (below_regrown w2 e os)) (hts2.out.on (below_regrown w2 e os)))
  have cr0 := fun e os => Calls.regrown_of (rRight_any v (.slice none 0 0) _ (.slice none 0 0) [] c [] (by simp) (grow (redrawn w2 e) os) (RowB.nil _ _ _) (hqr2.out.on (below_regrown w2 e os)) (RowB.nil _ _ _))
  rw [hR] at cR cr
  rw [hR0] at cR0 cr0
  have cW := fun e os => Calls.regrown_of (works_any (grow (redrawn w2 e) os) (hg2.out.on (below_regrown w2 e os)))
  have hRR : (R == R) = true := by simp
  have hRR0 : (R0 == R0) = true := by simp
  have p0 := hV2.cell 0
  have p1 := hV2.cell 1
  have p2 := hV2.cell 2
  have p3 := hV2.cell 3
  have p4 := hV2.cell 4
  simp at p0 p1 p2 p3 p4
  have k0 := cell_regrown p0
  have k1 := cell_regrown p1
  have k2 := cell_regrown p2
  have k3 := cell_regrown p3
  have k4 := cell_regrown p4
  clear hR hR0 hV2
  refine wp_region_quiet_below (by kernel_rfl) (by kernel_rfl) ?_
  repeat (go_big_quiet_step (first | with_reducible exact cA _ _ | with_reducible exact cN _ _ | with_reducible exact cR _ _ | with_reducible exact cr _ _ | with_reducible exact cR0 _ _ | with_reducible exact cr0 _ _ | with_reducible exact cW _ _))
  refine wpQuiet_nil ?_
  intro _ hw'
  obtain ⟨⟨dq, osq⟩, hw''⟩ := hw'
  subst hw''
  have hBf := hB2.trans ((below_regrown w2 dq osq).mono hs2)
  go_wp2
  go_ret
  exact ⟨rfl, hBf⟩

end Go.Proofs.YteefkijmodcijaaDoor.feasOdd

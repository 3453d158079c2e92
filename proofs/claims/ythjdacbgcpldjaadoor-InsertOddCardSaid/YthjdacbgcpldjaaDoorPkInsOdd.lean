import Derived.Test.YthjdacbgcpldjaaDoorPkInsArgs
import Derived.Test.YthjdacbgcpldjaaDoorPkInsTells

/-
  InsertOdd returns true, whatever the vehicle, stops, requests, places and memory are. Generated: InsOdd.gen.py.
-/
namespace Go.Proofs.YthjdacbgcpldjaaDoor.Ins
open Go.RowKit Go.Sort Go.Shelf Go.Proofs.YthjdacbgcpldjaaDoor.Mem Go.Proofs.YthjdacbgcpldjaaDoor.Route Go.Proofs.YthjdacbgcpldjaaDoor.When Go.Proofs.YthjdacbgcpldjaaDoor.Load
set_option linter.unusedVariables false

structure OdAt (w : World) (gv ga : Nat) (v : Vh) (r i j : Int) (vl vt : Value) (l : List (Int × Int)) (t : List Rq) (W : World) : Prop where
  v : At W gv 28 #[.int .i64 v.hx, .int .i64 v.hy, .int .i64 v.cp, .int .i64 v.st, .int .i64 v.en]
  a : At W ga 36 #[.int .i64 r, .int .i64 i, .int .i64 j]
  l : Row W.heap.size W vl l
  t : Rqs W.heap.size W vt t
  sg : Sg W
  b : Below w.heap.size w W
theorem OdAt.on {w W W' : World} {gv ga : Nat} {v : Vh} {r i j : Int} {vl vt : Value} {l : List (Int × Int)} {t : List Rq} (h : OdAt w gv ga v r i j vl vt l t W) (hb : Below W.heap.size W W') : OdAt w gv ga v r i j vl vt l t W' :=
  ⟨h.v.keep hb h.v.inside, h.a.keep hb h.a.inside, h.l.on hb, h.t.on hb, h.sg.on hb, h.b.trans (hb.mono h.b.size)⟩
theorem Nums.take {l : List (Int × Int)} (h : Nums l) (k : Nat) : Nums (l.take k) := fun s hs => h s (List.mem_of_mem_take hs)

set_option maxRecDepth 100000 in
set_option maxHeartbeats 8000000 in
theorem insertOdd_any (v : Vh) (vl vt : Value) (l : List (Int × Int)) (t : List Rq) (hnum : Nums l) (r i j : Int) (w : World) (hsg : Sg w) (hL : Row w.heap.size w vl l) (hT : Rqs w.heap.size w vt t) :
    Calls Tryd.prog 4 #[.agg #[.int .i64 v.hx, .int .i64 v.hy, .int .i64 v.cp, .int .i64 v.st, .int .i64 v.en], vl, vt, .agg #[.int .i64 r, .int .i64 i, .int .i64 j]] w fun e w' => e = .returned (.bool true) ∧ Below w.heap.size w w' := by
  obtain ⟨xt, Nt, capt, rfl, hNt, htc1, htc2, ht0⟩ := hT.opened
  obtain ⟨xl, N, capl, rfl, hN', h0', hlc1, hlc2⟩ := hL.opened
  obtain ⟨q, hq⟩ : ∃ q, w.heap.size = q := ⟨_, rfl⟩
  obtain ⟨w1, hw1⟩ : ∃ w1, (w.alloc (.cells #[.int .i64 v.hx, .int .i64 v.hy, .int .i64 v.cp, .int .i64 v.st, .int .i64 v.en] 28)).alloc (.cells #[.int .i64 r, .int .i64 i, .int .i64 j] 36) = w1 := ⟨_, rfl⟩
  have hV : At w1 q 28 #[.int .i64 v.hx, .int .i64 v.hy, .int .i64 v.cp, .int .i64 v.st, .int .i64 v.en] := by rw [← hw1]; exact (At.new_ _ _ _ hq.symm).alloc _
  have hA : At w1 (q + 1) 36 #[.int .i64 r, .int .i64 i, .int .i64 j] := by rw [← hw1]; exact At.new_ _ _ _ (by simp [hq])
  have hB : Below w.heap.size w w1 := by rw [← hw1]; exact ((Below.refl _ _).alloc (Nat.le_refl _) _).alloc (by simp) _
  obtain ⟨K, hK1, hK2, hK3⟩ : ∃ K : Nat, min (N : Int) 30 = (K : Int) ∧ K ≤ N ∧ K ≤ 30 := ⟨min N 30, by omega, by omega, by omega⟩
  obtain ⟨Kt, hKt1, hKt2, hKt3⟩ : ∃ K : Nat, min (Nt : Int) 30 = (K : Int) ∧ K ≤ Nt ∧ K ≤ 30 := ⟨min Nt 30, by omega, by omega, by omega⟩
  have hS1 : Hid (OdAt w q (q + 1) v r i j (.slice xl K capl) (.slice xt Kt capt) (l.take K) (t.take Kt) w1) := Lib.hid ⟨hV, hA, (RowB.cutB (by exact hL) (by rw [List.length_map]; exact hN'.out) hK2 |> fun h => (by rw [← List.map_take] at h; exact h : Row w.heap.size w (.slice xl K capl) (l.take K))).on hB, (Rqs.cutTo hT hNt hKt2).on hB, hsg.on hB, hB⟩
  have hnu : Hid (Nums (l.take K)) := Lib.hid (Nums.take hnum K)
  have hlen : Hid ((l.take K).length ≤ 1000000) := Lib.hid (by rw [List.length_take]; omega)
  have hc1 : K ≤ capl := by omega
  have hc2 : Kt ≤ capt := by omega
  have hw1' := Lib.hid hw1
  have hq' := Lib.hid hq
  unfold maxLen at hlc2 htc2
  generalize l.take K = l' at hS1 hnu hlen
  generalize t.take Kt = t' at hS1
  clear hT hNt ht0 hL h0' hw1 hq hB hnum hN' hV hA hsg
  go_enter Tryd.func4, Tryd.ntmps4
  go_upto_region 1 with fail
  simp only [hq'.out]
  rw [hw1'.out]
  go_quiet (fail)
  have hS2 := Lib.hid (hS1.out.on (Place.below_drewN (Below.refl _ _) nq))
  clear hS1 hw1' hq'
  generalize w1.drewN nq = w2 at *
  go_wp2
  go_loopw [9] (fun k wr => ∃ k' : Int, k = .int .i64 k' ∧ -1 ≤ k' ∧ k' ≤ Kt + 1 ∧ Hid (OdAt w q (q + 1) v r i j (.slice xl K capl) (.slice xt Kt capt) l' t' wr))
    (fun k _ => (Kt + 1 - intOf k).toNat)
  case atStart => exact ⟨-1, rfl, by omega, by omega, hS2⟩
  case round =>
    clear hS2
    obtain ⟨k, rfl, hk1, hk2, hS⟩ := hrel
    by_cases hlt : k ≤ Kt
    · have hC := alike_any v _ _ l' t' hlen.out hnu.out k i j wr hS.out.sg hS.out.l hS.out.t
      have hVc := hS.out.v
      have p0 := hVc.cell 0
      have p1 := hVc.cell 1
      have p2 := hVc.cell 2
      have p3 := hVc.cell 3
      have p4 := hVc.cell 4
      simp at p0 p1 p2 p3 p4
      have hVi := hVc.inside
      clear hVc
      have hAc := hS.out.a
      have a0 := hAc.cell 0
      have a1 := hAc.cell 1
      have a2 := hAc.cell 2
      simp at a0 a1 a2
      have hAi := hAc.inside
      clear hAc
      go_wp2_with fail
      refine hC.mono ?_
      clear hC p0 p1 p2 p3 p4 hVi a0 a1 a2 hAi
      rintro e w5 ⟨rfl, hb5⟩
      have hS5 := Lib.hid (hS.out.on hb5)
      clear hb5 hS
      have hC := alike_any v _ _ l' t' hlen.out hnu.out k 0 K w5 hS5.out.sg hS5.out.l hS5.out.t
      have hVc := hS5.out.v
      have p0 := hVc.cell 0
      have p1 := hVc.cell 1
      have p2 := hVc.cell 2
      have p3 := hVc.cell 3
      have p4 := hVc.cell 4
      simp at p0 p1 p2 p3 p4
      have hVi := hVc.inside
      clear hVc
      go_wp2_with fail
      refine hC.mono ?_
      clear hC p0 p1 p2 p3 p4 hVi
      rintro e w6 ⟨rfl, hb6⟩
      have hS6 := Lib.hid (hS5.out.on hb6)
      clear hb6 hS5
      go_wp2
      go_roundw
      case rel => exact ⟨k + 1, by go_num, by omega, by omega, hS6⟩
      case measure => simp [intOf]; omega
    · have hC := alike_any v _ _ l' t' hlen.out hnu.out r i j wr hS.out.sg hS.out.l hS.out.t
      have hVc := hS.out.v
      have p0 := hVc.cell 0
      have p1 := hVc.cell 1
      have p2 := hVc.cell 2
      have p3 := hVc.cell 3
      have p4 := hVc.cell 4
      simp at p0 p1 p2 p3 p4
      have hVi := hVc.inside
      clear hVc
      have hAc := hS.out.a
      have a0 := hAc.cell 0
      have a1 := hAc.cell 1
      have a2 := hAc.cell 2
      simp at a0 a1 a2
      have hAi := hAc.inside
      clear hAc
      go_wp2_with fail
      refine hC.mono ?_
      clear hC p0 p1 p2 p3 p4 hVi a0 a1 a2 hAi
      rintro e w5 ⟨rfl, hb5⟩
      have hS5 := Lib.hid (hS.out.on hb5)
      clear hb5 hS
      go_wp2_with fail
      refine (works_any w5 hS5.out.sg).mono ?_
      rintro e w6 ⟨rfl, hb6⟩
      have hS6 := Lib.hid (hS5.out.on hb6)
      clear hb6 hS5
      go_wp2
      go_ret
      exact ⟨rfl, hS6.out.b⟩

end Go.Proofs.YthjdacbgcpldjaaDoor.Ins

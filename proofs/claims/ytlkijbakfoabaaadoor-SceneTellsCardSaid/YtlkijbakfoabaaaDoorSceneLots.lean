/-
  Package scene's iterator over lots.
-/
import Derived.Test.YtlkijbakfoabaaaDoorSceneReqs
namespace Go.Proofs.YtlkijbakfoabaaaDoor.Scene
open Go.RowKit Go.Shelf Go.Proofs.YtlkijbakfoabaaaDoor.Mem Go.Proofs.YtlkijbakfoabaaaDoor.Up
set_option linter.unusedVariables false

attribute [local go_sem] Oper.semAt_some

theorem lotsFrom_cons (N : Int) (l : Nat) (ps : List (Int × Int)) (x : Lt) (xs : List Lt) :
    lotsFrom N l ps (x :: xs) = ((l : Int), clmC N ps x.req) :: ((l : Int), unV (Order.btwB x.res 0 16777216) 3) :: lotsFrom N (l + 1) (ps ++ [(x.req, (l : Int))]) xs := rfl

set_option maxRecDepth 100000 in
set_option maxHeartbeats 4000000 in
theorem lots_runs (s : Sc) (hfair : Fair s) (vR vC vL vD : Value) (us : List (Value × Value)) (cm rv sch : Int) (B0 B : Nat) (hB : B0 ≤ B) (I : List (Int × Int) → World → Prop) (hI : ∀ p A, I p A → SceneAt B0 A vR vC vL vD us s) :
    Runs Tryd.prog 37 #[.agg #[vR, vC, vL, .int .i64 cm, .int .i64 rv, .int .i64 sch, vD]] #[] enc2 good2 (lotsL s) B I := by
  intro l J W hWB h0 hJ hJI hY
  refine callsIn_of_wp Tryd.func37 rfl trivial ?_ rfl
  simp only [Tryd.ntmps37, List.size_toArray, List.length_cons, List.length_nil, Nat.reduceAdd, Nat.reduceSub, Array.replicate_succ, Array.replicate_zero, List.push_toArray, List.append_toArray, List.nil_append, List.cons_append]
  obtain ⟨x, cap, rfl, hlen, hcap, hrow⟩ := (hI _ _ (hJI _ _ h0)).lots
  obtain ⟨xR, capR, rfl, hlenR, hcapR, hrowR⟩ := (hI _ _ (hJI _ _ h0)).reqs
  clear hrow hrowR
  simp only [List.length_map] at hlen hlenR hI ⊢
  unfold maxLen at hcap hcapR
  have hWs : B ≤ W.heap.size := by omega
  obtain ⟨W1, hW1⟩ : ∃ W1, (W.alloc (.cells #[.slice xR s.reqs.length capR, vC, .slice x s.lots.length cap, .int .i64 cm, .int .i64 rv, .int .i64 sch, vD] 77)).alloc (.map #[] 0) = W1 := ⟨_, rfl⟩
  have hP : At W1 B 77 #[.slice xR s.reqs.length capR, vC, .slice x s.lots.length cap, .int .i64 cm, .int .i64 rv, .int .i64 sch, vD] := by rw [← hW1]; exact (At.new_ _ _ _ hWB.symm).alloc _
  have hM : MapAt W1 (B + 1) 0 (mapP s.reqs.length []) := by
    rw [← hW1]
    have := MapAt.made (W.alloc (.cells #[.slice xR s.reqs.length capR, vC, .slice x s.lots.length cap, .int .i64 cm, .int .i64 rv, .int .i64 sch, vD] 77))
    rw [World.size_alloc, hWB] at this
    refine this.funs fun r => ?_
    unfold mapP whoP
    split <;> rfl
  have hj1 : J [] W1 := by rw [← hW1]; exact hJ.new (hJ.new h0 _) _
  have hs1 : B + 2 ≤ W1.heap.size := by rw [← hW1]; simp; omega
  have hW1' := Lib.hid hW1
  have hY' := Lib.hid hY
  have hI' := Lib.hid hI
  have hfair' := Lib.hid hfair
  clear hY hI hW1 hfair
  have hmm := @run_makeMap Tryd.prog
  have p2 := hP.cell 2
  simp at p2
  have p2 := hP.cell 2
  simp at p2
  gi_wp2_with fail
  rw [hW1'.out]
  gi_loopw [11] (fun i wr => ∃ (pre : List (Int × Int)) (k : Nat) (rest : List Lt) (ps : List (Int × Int)), i = .int .i64 k ∧ lotsL s = pre ++ lotsFrom s.reqs.length k ps rest ∧ s.lots.drop k = rest ∧ (∀ y ∈ pre, good2 y = true) ∧ J pre wr ∧ B + 2 ≤ wr.heap.size ∧
      At wr B 77 #[.slice xR s.reqs.length capR, vC, .slice x s.lots.length cap, .int .i64 cm, .int .i64 rv, .int .i64 sch, vD] ∧ MapAt wr (B + 1) k (mapP s.reqs.length ps) ∧ ∀ p ∈ ps, 0 ≤ p.2)
    (fun i _ => s.lots.length - (intOf i).toNat)
  case atStart => exact ⟨[], 0, s.lots, [], rfl, rfl, rfl, (fun y hy => by cases hy), hj1, hs1, hP, hM, fun y hy => by cases hy⟩
  case round =>
    obtain ⟨pre, k, rest, ps, rfl, hL, hd, hg, hj, hs, hPk, hMk, hps⟩ := hrel
    clear hP hM p2 hj1 hs1
    cases rest with
    | nil =>
      have hk := drop_nil hd
      have hk2 : ¬ (k < s.lots.length) := by omega
      have hL' := Lib.hid hL
      clear hL hd hlen hcap
      gi_wp2
      go_end0
      refine ⟨⟨_, rfl⟩, ?_⟩
      have e : lotsL s = pre := by rw [hL'.out]; simp [lotsFrom]
      rw [e, upTo_all hg]
      exact hj
    | cons q rest =>
      obtain ⟨hlt, hq, hd2⟩ := drop_cons hd
      obtain ⟨g, o, rfl, hgB, hc⟩ := RowB.row (hI'.out _ _ (hJI _ _ hj)).lots (j := k) (r := ltV q) (by rw [List.getElem?_map, hq]; rfl)
      have c0 := hc 0 _ rfl
      have c1 := hc 1 _ rfl
      clear hc
      simp at c0 c1
      have hL' := Lib.hid (hL.trans (by rw [lotsFrom_cons]))
      have hg' := Lib.hid hg
      have hd' := Lib.hid hd2
      have hps' := Lib.hid hps
      have hq' := Lib.hid hq
      clear hL hd hd2 hq hg hps
      have hX := At.new wr 59 #[.int .i64 q.req, .int .i64 q.res]
      have hPV := hPk.alloc (.cells #[.int .i64 q.req, .int .i64 q.res] 59)
      have hMV := hMk.alloc (.cells #[.int .i64 q.req, .int .i64 q.res] 59)
      have hjV := hJ.new hj (.cells #[.int .i64 q.req, .int .i64 q.res] 59)
      have hBs : B < wr.heap.size := by omega
      have v0 := hPk.cell 0
      have v1 := hPk.cell 1
      have v2 := hPk.cell 2
      have v3 := hPk.cell 3
      have v4 := hPk.cell 4
      have v5 := hPk.cell 5
      have v6 := hPk.cell 6
      simp at v0 v1 v2 v3 v4 v5 v6
      clear hPk hMk hj
      gi_wp2_with fail
      refine ⟨trivial, ?_⟩
      have hr := hfair'.out.pooled q (List.mem_of_getElem? hq'.out)
      have hcn := hfair'.out.fewL
      have hrn := hfair'.out.rnum
      refine (callsIn_wide.2 (claim_p _ (B + 1) k ps xR s.reqs.length capR _ _ _ _ _ _ q.req k hr ⟨by omega, by omega⟩ (by omega) (by omega) hps'.out hMV)).mono ?_
      rintro e w3 ⟨rfl, hM3, hT3⟩
      have hj3 := Old.turned hJ hjV hT3 (by omega) hMV.obj
      have hP3 := At.turned hPV hT3 (by omega)
      have hX3 := At.turned hX hT3 (by omega)
      have hs3 : B + 2 ≤ w3.heap.size := by have := hT3.size; simp at this; omega
      have hwr : wr.heap.size < w3.heap.size := by have := hT3.size; simp at this; omega
      clear hT3 hMV hPV hX hjV c0 c1 v0 v1 v2 v3 v4 v5 v6 hr hcn hrn
      have y1 := hX3.cell 1
      simp at y1
      obtain ⟨fn, tmps, assign, body, hyy, hR⟩ := hY'.out 1 pre ((k : Int), clmC s.reqs.length ps q.req) w3 hj3 hg'.out (by omega)
      dsimp only [enc2] at hyy
      gi_wp2_with fail
      refine hR.mono ?_
      clear hR hyy
      rintro e w4 ⟨rfl, hj4, hk4⟩
      have hs4 : B + 2 ≤ w4.heap.size := Nat.le_trans hs3 hk4.size
      have hP4 := At.kept hP3 hk4 (Nat.le_refl _)
      have hX4 := At.kept hX3 hk4 (by omega)
      have hM4 := hM3.kept hk4 (by omega)
      clear hk4 hj3 hP3 hX3 hM3 y1 hs3 hwr
      cases hgood : good2 ((k : Int), clmC s.reqs.length ps q.req)
      · gi_wp2_with fail
        refine ⟨trivial, ?_⟩
        gi_wp2_with fail
        refine ⟨trivial, ?_⟩
        gi_wp2_with fail
        refine ⟨fun _ h => (by cases h), ?_⟩
        gi_wp2
        refine bodyPost_ret (results_none rfl _ _ _) rfl ?_
        refine ⟨⟨_, rfl⟩, ?_⟩
        rw [hL'.out, upTo_append hg'.out, upTo_bad hgood]
        exact hj4
      · have y1 := hX4.cell 1
        simp at y1
        gi_wp2_with fail
        refine ⟨trivial, ?_⟩
        refine (callsIn_wide.2 (within_any _ _ _ _)).mono ?_
        rintro e w5 ⟨rfl, rfl⟩
        gi_wp2_with fail
        refine ⟨trivial, ?_⟩
        refine (callsIn_wide.2 (unless_any _ _ _)).mono ?_
        rintro e w5 ⟨rfl, rfl⟩
        obtain ⟨fn2, tmps2, assign2, body2, hyy2, hR2⟩ := hY'.out 1 (pre ++ [((k : Int), clmC s.reqs.length ps q.req)]) ((k : Int), unV (Order.btwB q.res 0 16777216) 3) w4 hj4 (good_snoc hg'.out hgood) (by omega)
        dsimp only [enc2] at hyy2
        gi_wp2_with fail
        refine hR2.mono ?_
        clear hR2 hyy2
        rintro e w5 ⟨rfl, hj5, hk5⟩
        have hs5 : B + 2 ≤ w5.heap.size := Nat.le_trans hs4 hk5.size
        have hP5 := At.kept hP4 hk5 (Nat.le_refl _)
        have hM5 := hM4.kept hk5 (by omega)
        clear hk5 hj4 hP4 hX4 hM4 y1 hs4
        have hL2 : Hid (lotsL s = (pre ++ [((k : Int), clmC s.reqs.length ps q.req)]) ++ ((k : Int), unV (Order.btwB q.res 0 16777216) 3) :: lotsFrom s.reqs.length (k + 1) (ps ++ [(q.req, (k : Int))]) rest) := Lib.hid (by rw [hL'.out]; simp)
        have hg2 := Lib.hid (good_snoc hg'.out hgood)
        cases hgood2 : good2 ((k : Int), unV (Order.btwB q.res 0 16777216) 3)
        · gi_wp2
          refine bodyPost_ret (results_none rfl _ _ _) rfl ?_
          refine ⟨⟨_, rfl⟩, ?_⟩
          rw [hL2.out, upTo_append hg2.out, upTo_bad hgood2]
          exact hj5
        · gi_wp2
          go_roundw
          case rel =>
            refine ⟨(pre ++ [((k : Int), clmC s.reqs.length ps q.req)]) ++ [((k : Int), unV (Order.btwB q.res 0 16777216) 3)], k + 1, rest, ps ++ [(q.req, (k : Int))], by go_num, ?_, hd'.out, good_snoc hg2.out hgood2, hj5, hs5, hP5, hM5, pos_snoc hps'.out _ (by omega)⟩
            rw [hL2.out]; simp
          case measure => simp [intOf]; omega

end Go.Proofs.YtlkijbakfoabaaaDoor.Scene

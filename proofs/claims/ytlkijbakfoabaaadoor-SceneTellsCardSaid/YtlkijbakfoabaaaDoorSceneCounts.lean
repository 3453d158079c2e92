/-
  Package scene's iterator over the counts.
-/
import Derived.Test.YtlkijbakfoabaaaDoorSceneReqs
namespace Go.Proofs.YtlkijbakfoabaaaDoor.Scene
open Go.RowKit Go.Shelf Go.Proofs.YtlkijbakfoabaaaDoor.Mem Go.Proofs.YtlkijbakfoabaaaDoor.Up
set_option linter.unusedVariables false

attribute [local go_sem] Oper.semAt_some

theorem fleetsL_cons (c : Nat) (x : Cr) (cs : List Cr) : fleetsL c (x :: cs) = ((c : Int), unV (Order.btwB x.fleet.length 1 4) 11) :: fleetsL (c + 1) cs := rfl
theorem lists_no1 {s : Sc} (h : ¬ s.reqs.length ≤ 64) : false = listsB s := by simp [listsB, h]
theorem lists_no2 {s : Sc} (h : Order.btwB s.cars.length 1 8 = false) : false = listsB s := by simp [listsB, h]
theorem lists_no3 {s : Sc} (h : ¬ s.lots.length ≤ 16) : false = listsB s := by simp [listsB, h]
theorem lists_no4 {s : Sc} (h : ¬ s.draws = s.cars.length) : false = listsB s := by simp [listsB, h]
theorem lists_yes {s : Sc} (h1 : s.reqs.length ≤ 64) (h2 : Order.btwB s.cars.length 1 8 = true) (h3 : s.lots.length ≤ 16) (h4 : s.draws = s.cars.length) : true = listsB s := by simp [listsB, h1, h2, h3, h4]
theorem terms_no1 {s : Sc} (h : Order.btwB s.cm 1 64 = false) : false = termsB s := by simp [termsB, h]
theorem terms_no2 {s : Sc} (h : Order.btwB s.rv 1 64 = false) : false = termsB s := by simp [termsB, h]
theorem terms_yes {s : Sc} (h1 : Order.btwB s.cm 1 64 = true) (h2 : Order.btwB s.rv 1 64 = true) : Order.btwB s.sch 0 1 = termsB s := by simp [termsB, h1, h2]
theorem good_un0 (i c : Int) (hc : c ≠ 0) : good2 (i, unV false c) = false := by simp [good2, unV, hc]
theorem good_un1 (i c : Int) : good2 (i, unV true c) = true := by simp [good2, unV]

set_option maxRecDepth 100000 in
set_option maxHeartbeats 4000000 in
theorem counts_runs (s : Sc) (vR vC vL vD : Value) (us : List (Value × Value)) (B0 B : Nat) (hB : B0 ≤ B) (I : List (Int × Int) → World → Prop) (hI : ∀ p A, I p A → SceneAt B0 A vR vC vL vD us s) :
    Runs Tryd.prog 34 #[.agg #[vR, vC, vL, .int .i64 s.cm, .int .i64 s.rv, .int .i64 s.sch, vD]] #[] enc2 good2 (countsL s) B I := by
  intro l J W hWB h0 hJ hJI hY
  refine callsIn_of_wp Tryd.func34 rfl trivial ?_ rfl
  simp only [Tryd.ntmps34, List.size_toArray, List.length_cons, List.length_nil, Nat.reduceAdd, Nat.reduceSub, Array.replicate_succ, Array.replicate_zero, List.push_toArray, List.append_toArray, List.nil_append, List.cons_append]
  obtain ⟨xR, capR, rfl, hlenR, hcapR, hrowR⟩ := (hI _ _ (hJI _ _ h0)).reqs
  obtain ⟨hus, ⟨xC, capC, rfl, hlenC, hcapC, hrowC⟩, hcarsC⟩ := (hI _ _ (hJI _ _ h0)).cars
  obtain ⟨xL, capL, rfl, hlenL, hcapL, hrowL⟩ := (hI _ _ (hJI _ _ h0)).lots
  obtain ⟨xD, capD, rfl, hlenD, hcapD⟩ := (hI _ _ (hJI _ _ h0)).draws
  clear hrowR hrowC hrowL hcarsC
  simp only [List.length_map, hus] at hlenR hlenC hlenL hI ⊢
  unfold maxLen at hcapR hcapC hcapL hcapD
  clear hus
  have hWs : B ≤ W.heap.size := by omega
  have hP := At.new_ W 77 #[.slice xR s.reqs.length capR, .slice xC s.cars.length capC, .slice xL s.lots.length capL, .int .i64 s.cm, .int .i64 s.rv, .int .i64 s.sch, .slice xD s.draws capD] hWB.symm
  have hj1 := hJ.new h0 (.cells #[.slice xR s.reqs.length capR, .slice xC s.cars.length capC, .slice xL s.lots.length capL, .int .i64 s.cm, .int .i64 s.rv, .int .i64 s.sch, .slice xD s.draws capD] 77)
  have hY' := Lib.hid hY
  have hI' := Lib.hid hI
  clear hY hI h0
  by_cases h1 : ¬ s.reqs.length ≤ 64
  · have hE := Lib.hid (lists_no1 h1)
    gi_wp2_with fail
    refine ⟨trivial, ?_⟩
    gi_wp2_with fail
    refine ⟨trivial, ?_⟩
    gi_wp2_with fail
    refine (callsIn_wide.2 (unless_any _ _ _)).mono ?_
    rintro e w5 ⟨rfl, rfl⟩
    rw [hE.out]
    obtain ⟨fn, tmps, assign, body, hyy, hR⟩ := hY'.out 1 [] (0, unV (listsB s) 11) _ hj1 (fun y hy => by cases hy) (by simp; omega)
    dsimp only [enc2] at hyy
    gi_wp2_with fail
    refine hR.mono ?_
    clear hR hyy
    rintro e w4 ⟨rfl, hj4, hk4⟩
    have hgood : good2 (0, unV (listsB s) 11) = false := by rw [← hE.out]; exact good_un0 _ _ (by decide)
    rw [hgood]
    gi_wp2
    refine bodyPost_ret (results_none rfl _ _ _) rfl ?_
    refine ⟨⟨_, rfl⟩, ?_⟩
    unfold countsL
    rw [upTo_bad hgood]
    exact hj4
  replace h1 := Classical.not_not.1 h1
  cases h2 : Order.btwB s.cars.length 1 8
  · have hE := Lib.hid (lists_no2 h2)
    gi_wp2_with fail
    refine ⟨trivial, ?_⟩
    refine (callsIn_wide.2 (within_any _ _ _ _)).mono ?_
    rintro e w5 ⟨rfl, rfl⟩
    rw [h2]
    gi_wp2_with fail
    refine ⟨trivial, ?_⟩
    gi_wp2_with fail
    refine (callsIn_wide.2 (unless_any _ _ _)).mono ?_
    rintro e w5 ⟨rfl, rfl⟩
    rw [hE.out]
    obtain ⟨fn, tmps, assign, body, hyy, hR⟩ := hY'.out 1 [] (0, unV (listsB s) 11) _ hj1 (fun y hy => by cases hy) (by simp; omega)
    dsimp only [enc2] at hyy
    gi_wp2_with fail
    refine hR.mono ?_
    clear hR hyy
    rintro e w4 ⟨rfl, hj4, hk4⟩
    have hgood : good2 (0, unV (listsB s) 11) = false := by rw [← hE.out]; exact good_un0 _ _ (by decide)
    rw [hgood]
    gi_wp2
    refine bodyPost_ret (results_none rfl _ _ _) rfl ?_
    refine ⟨⟨_, rfl⟩, ?_⟩
    unfold countsL
    rw [upTo_bad hgood]
    exact hj4
  by_cases h3 : ¬ s.lots.length ≤ 16
  · have hE := Lib.hid (lists_no3 h3)
    gi_wp2_with fail
    refine ⟨trivial, ?_⟩
    refine (callsIn_wide.2 (within_any _ _ _ _)).mono ?_
    rintro e w5 ⟨rfl, rfl⟩
    rw [h2]
    gi_wp2_with fail
    refine ⟨trivial, ?_⟩
    refine (callsIn_wide.2 (unless_any _ _ _)).mono ?_
    rintro e w5 ⟨rfl, rfl⟩
    rw [hE.out]
    obtain ⟨fn, tmps, assign, body, hyy, hR⟩ := hY'.out 1 [] (0, unV (listsB s) 11) _ hj1 (fun y hy => by cases hy) (by simp; omega)
    dsimp only [enc2] at hyy
    gi_wp2_with fail
    refine hR.mono ?_
    clear hR hyy
    rintro e w4 ⟨rfl, hj4, hk4⟩
    have hgood : good2 (0, unV (listsB s) 11) = false := by rw [← hE.out]; exact good_un0 _ _ (by decide)
    rw [hgood]
    gi_wp2
    refine bodyPost_ret (results_none rfl _ _ _) rfl ?_
    refine ⟨⟨_, rfl⟩, ?_⟩
    unfold countsL
    rw [upTo_bad hgood]
    exact hj4
  replace h3 := Classical.not_not.1 h3
  cases h4 : ((s.draws : Int) == (s.cars.length : Int))
  · have h4' : ¬ s.draws = s.cars.length := by have := beq_eq_false_iff_ne.1 h4; omega
    have hE := Lib.hid (lists_no4 h4')
    clear h4'
    gi_wp2_with fail
    refine ⟨trivial, ?_⟩
    refine (callsIn_wide.2 (within_any _ _ _ _)).mono ?_
    rintro e w5 ⟨rfl, rfl⟩
    rw [h2]
    gi_wp2_with fail
    refine ⟨trivial, ?_⟩
    refine (callsIn_wide.2 (unless_any _ _ _)).mono ?_
    rintro e w5 ⟨rfl, rfl⟩
    rw [hE.out]
    obtain ⟨fn, tmps, assign, body, hyy, hR⟩ := hY'.out 1 [] (0, unV (listsB s) 11) _ hj1 (fun y hy => by cases hy) (by simp; omega)
    dsimp only [enc2] at hyy
    gi_wp2_with fail
    refine hR.mono ?_
    clear hR hyy
    rintro e w4 ⟨rfl, hj4, hk4⟩
    have hgood : good2 (0, unV (listsB s) 11) = false := by rw [← hE.out]; exact good_un0 _ _ (by decide)
    rw [hgood]
    gi_wp2
    refine bodyPost_ret (results_none rfl _ _ _) rfl ?_
    refine ⟨⟨_, rfl⟩, ?_⟩
    unfold countsL
    rw [upTo_bad hgood]
    exact hj4
  have h4' : s.draws = s.cars.length := by have := beq_iff_eq.1 h4; omega
  have hE := Lib.hid (lists_yes h1 h2 h3 h4')
  clear h4'
  have q1 := Lib.hid hj1
  gi_wp2_with fail
  refine ⟨trivial, ?_⟩
  refine (callsIn_wide.2 (within_any _ _ _ _)).mono ?_
  rintro e w5 ⟨rfl, rfl⟩
  rw [h2]
  gi_wp2_with fail
  refine ⟨trivial, ?_⟩
  refine (callsIn_wide.2 (unless_any _ _ _)).mono ?_
  rintro e w5 ⟨rfl, rfl⟩
  rw [hE.out]
  obtain ⟨fn, tmps, assign, body, hyy, hR⟩ := hY'.out 1 [] (0, unV (listsB s) 11) _ hj1 (fun y hy => by cases hy) (by simp; omega)
  dsimp only [enc2] at hyy
  gi_wp2_with fail
  refine hR.mono ?_
  clear hR hyy
  rintro e w4 ⟨rfl, hj4, hk4⟩
  have hgood : good2 (0, unV (listsB s) 11) = true := by rw [← hE.out]; exact good_un1 _ _
  rw [hgood]
  have hP4 := At.kept hP hk4 (Nat.le_refl _)
  have hs4 : B + 1 ≤ w4.heap.size := by have := hk4.size; simp at this; omega
  clear hk4 hj1 q1 hP
  have p1 := hP4.cell 1
  simp at p1
  gi_wp2_with fail
  gi_loopw [41] (fun i wr => ∃ (pre : List (Int × Int)) (k : Nat) (rest : List Cr), i = .int .i64 k ∧ countsL s = pre ++ (fleetsL k rest ++ [(0, unV (termsB s) 2)]) ∧ s.cars.drop k = rest ∧ (∀ y ∈ pre, good2 y = true) ∧ J pre wr ∧ B + 1 ≤ wr.heap.size ∧
      At wr B 77 #[.slice xR s.reqs.length capR, .slice xC s.cars.length capC, .slice xL s.lots.length capL, .int .i64 s.cm, .int .i64 s.rv, .int .i64 s.sch, .slice xD s.draws capD])
    (fun i _ => s.cars.length - (intOf i).toNat)
  case atStart => exact ⟨[(0, unV (listsB s) 11)], 0, s.cars, rfl, rfl, rfl, (fun y hy => by obtain rfl := List.mem_singleton.1 hy; exact hgood), hj4, hs4, hP4⟩
  case round =>
    obtain ⟨pre, k, rest, rfl, hL, hd, hg, hj, hs, hPk⟩ := hrel
    clear hP4 p1 hj4 hs4 h4 h1 h2 h3 hgood
    cases rest with
    | nil =>
      have hk := drop_nil hd
      have hk2 : ¬ (k < s.cars.length) := by omega
      have hL' := Lib.hid hL
      have hg' := Lib.hid hg
      clear hL hd hg hlenR hlenC hlenL hlenD hcapR hcapC hcapL hcapD
      have p3 := hPk.cell 3
      have p4 := hPk.cell 4
      have p5 := hPk.cell 5
      simp at p3 p4 p5
      cases t1 : Order.btwB s.cm 1 64
      · have hT := Lib.hid (terms_no1 t1)
        gi_wp2_with fail
        refine ⟨trivial, ?_⟩
        refine (callsIn_wide.2 (within_any _ _ _ _)).mono ?_
        rintro e w5 ⟨rfl, rfl⟩
        rw [t1]
        gi_wp2_with fail
        refine ⟨trivial, ?_⟩
        gi_wp2_with fail
        refine ⟨trivial, ?_⟩
        gi_wp2_with fail
        refine ⟨trivial, ?_⟩
        refine (callsIn_wide.2 (unless_any _ _ _)).mono ?_
        rintro e w5 ⟨rfl, rfl⟩
        rw [hT.out]
        obtain ⟨fn, tmps, assign, body, hyy, hR⟩ := hY'.out 1 pre (0, unV (termsB s) 2) wr hj hg'.out (by omega)
        dsimp only [enc2] at hyy
        gi_wp2_with fail
        refine hR.mono ?_
        clear hR hyy
        rintro e w4 ⟨rfl, hj4, hk4⟩
        gi_wp2
        go_end0
        refine ⟨⟨_, rfl⟩, ?_⟩
        have e : countsL s = pre ++ [(0, unV (termsB s) 2)] := by rw [hL'.out]; simp [fleetsL]
        rw [e, upTo_append hg'.out]
        cases hgood : good2 (0, unV (termsB s) 2)
        · rw [upTo_bad hgood]; exact hj4
        · rw [upTo_good hgood]; exact hj4
      cases t2 : Order.btwB s.rv 1 64
      · have hT := Lib.hid (terms_no2 t2)
        gi_wp2_with fail
        refine ⟨trivial, ?_⟩
        refine (callsIn_wide.2 (within_any _ _ _ _)).mono ?_
        rintro e w5 ⟨rfl, rfl⟩
        rw [t1]
        gi_wp2_with fail
        refine ⟨trivial, ?_⟩
        refine (callsIn_wide.2 (within_any _ _ _ _)).mono ?_
        rintro e w5 ⟨rfl, rfl⟩
        rw [t2]
        gi_wp2_with fail
        refine ⟨trivial, ?_⟩
        gi_wp2_with fail
        refine ⟨trivial, ?_⟩
        refine (callsIn_wide.2 (unless_any _ _ _)).mono ?_
        rintro e w5 ⟨rfl, rfl⟩
        rw [hT.out]
        obtain ⟨fn, tmps, assign, body, hyy, hR⟩ := hY'.out 1 pre (0, unV (termsB s) 2) wr hj hg'.out (by omega)
        dsimp only [enc2] at hyy
        gi_wp2_with fail
        refine hR.mono ?_
        clear hR hyy
        rintro e w4 ⟨rfl, hj4, hk4⟩
        gi_wp2
        go_end0
        refine ⟨⟨_, rfl⟩, ?_⟩
        have e : countsL s = pre ++ [(0, unV (termsB s) 2)] := by rw [hL'.out]; simp [fleetsL]
        rw [e, upTo_append hg'.out]
        cases hgood : good2 (0, unV (termsB s) 2)
        · rw [upTo_bad hgood]; exact hj4
        · rw [upTo_good hgood]; exact hj4
      have hT := Lib.hid (terms_yes t1 t2)
      gi_wp2_with fail
      refine ⟨trivial, ?_⟩
      refine (callsIn_wide.2 (within_any _ _ _ _)).mono ?_
      rintro e w5 ⟨rfl, rfl⟩
      rw [t1]
      gi_wp2_with fail
      refine ⟨trivial, ?_⟩
      refine (callsIn_wide.2 (within_any _ _ _ _)).mono ?_
      rintro e w5 ⟨rfl, rfl⟩
      rw [t2]
      gi_wp2_with fail
      refine ⟨trivial, ?_⟩
      refine (callsIn_wide.2 (within_any _ _ _ _)).mono ?_
      rintro e w5 ⟨rfl, rfl⟩
      rw [hT.out]
      gi_wp2_with fail
      refine ⟨trivial, ?_⟩
      refine (callsIn_wide.2 (unless_any _ _ _)).mono ?_
      rintro e w5 ⟨rfl, rfl⟩
      obtain ⟨fn, tmps, assign, body, hyy, hR⟩ := hY'.out 1 pre (0, unV (termsB s) 2) wr hj hg'.out (by omega)
      dsimp only [enc2] at hyy
      gi_wp2_with fail
      refine hR.mono ?_
      clear hR hyy
      rintro e w4 ⟨rfl, hj4, hk4⟩
      gi_wp2
      go_end0
      refine ⟨⟨_, rfl⟩, ?_⟩
      have e : countsL s = pre ++ [(0, unV (termsB s) 2)] := by rw [hL'.out]; simp [fleetsL]
      rw [e, upTo_append hg'.out]
      cases hgood : good2 (0, unV (termsB s) 2)
      · rw [upTo_bad hgood]; exact hj4
      · rw [upTo_good hgood]; exact hj4
    | cons q rest =>
      obtain ⟨hlt, hq, hd2⟩ := drop_cons hd
      have hcs := (hI'.out _ _ (hJI _ _ hj)).cars
      obtain ⟨xF, capF, xO, capO, _, hlenF, hcapF, _, _, hk3⟩ := hcs.get hq
      obtain ⟨g, o, rfl, hgB, hc⟩ := RowB.row hcs.row hk3
      unfold maxLen at hcapF
      clear hk3 hcs
      have c0 := hc 0 _ rfl
      have c1 := hc 1 _ rfl
      clear hc
      simp at c0 c1
      have hL' := Lib.hid (hL.trans (by rw [fleetsL_cons]))
      have hg' := Lib.hid hg
      have hd' := Lib.hid hd2
      clear hL hd hd2 hq hg
      have hPV := hPk.alloc (.cells #[.slice xF q.fleet.length capF, .slice xO q.own.length capO] 53)
      have hjV := hJ.new hj (.cells #[.slice xF q.fleet.length capF, .slice xO q.own.length capO] 53)
      clear hPk hj
      gi_wp2_with fail
      refine ⟨trivial, ?_⟩
      refine (callsIn_wide.2 (within_any _ _ _ _)).mono ?_
      rintro e w5 ⟨rfl, rfl⟩
      gi_wp2_with fail
      refine ⟨trivial, ?_⟩
      refine (callsIn_wide.2 (unless_any _ _ _)).mono ?_
      rintro e w5 ⟨rfl, rfl⟩
      obtain ⟨fn, tmps, assign, body, hyy, hR⟩ := hY'.out 1 pre ((k : Int), unV (Order.btwB q.fleet.length 1 4) 11) _ hjV hg'.out (by simp; omega)
      dsimp only [enc2] at hyy
      gi_wp2_with fail
      refine hR.mono ?_
      clear hR hyy
      rintro e w4 ⟨rfl, hj4, hk4⟩
      have hs4 : B + 1 ≤ w4.heap.size := by have := hk4.size; simp at this; omega
      have hP4 := At.kept hPV hk4 (Nat.le_refl _)
      clear hk4 hjV hPV c0 c1
      have hL2 : Hid (countsL s = pre ++ ((k : Int), unV (Order.btwB q.fleet.length 1 4) 11) :: (fleetsL (k + 1) rest ++ [(0, unV (termsB s) 2)])) := Lib.hid (by rw [hL'.out]; simp)
      cases hgood : good2 ((k : Int), unV (Order.btwB q.fleet.length 1 4) 11)
      · gi_wp2
        refine bodyPost_ret (results_none rfl _ _ _) rfl ?_
        refine ⟨⟨_, rfl⟩, ?_⟩
        rw [hL2.out, upTo_append hg'.out, upTo_bad hgood]
        exact hj4
      · gi_wp2
        go_roundw
        case rel =>
          refine ⟨pre ++ [((k : Int), unV (Order.btwB q.fleet.length 1 4) 11)], k + 1, rest, by go_num, ?_, hd'.out, good_snoc hg'.out hgood, hj4, hs4, hP4⟩
          rw [hL2.out]; simp
        case measure => simp [intOf]; omega

end Go.Proofs.YtlkijbakfoabaaaDoor.Scene

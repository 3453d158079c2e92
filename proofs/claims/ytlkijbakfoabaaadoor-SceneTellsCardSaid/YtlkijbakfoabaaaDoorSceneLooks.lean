/-
  Package scene's iterator over all that is looked at.
-/
import Derived.Test.YtlkijbakfoabaaaDoorSceneCounts
import Derived.Test.YtlkijbakfoabaaaDoorSceneCars
namespace Go.Proofs.YtlkijbakfoabaaaDoor.Scene
open Go.RowKit Go.Shelf Go.Proofs.YtlkijbakfoabaaaDoor.Mem Go.Proofs.YtlkijbakfoabaaaDoor.Up
set_option linter.unusedVariables false

attribute [local go_sem] Oper.semAt_some

def enc3 (x : Int × Int × Int) : Array Value := #[.agg #[.int .i64 x.1, .int .i64 x.2.1, .int .i64 x.2.2]]

theorem roundInside {P : Program} {l l2 m m' : Nat} {f : FuncId} {tmps : Array Value} {assign body : Code} {w : World} {R : Ending → World → Prop} (h : RoundIn Fence.wide m P l f tmps assign body w R) :
    RoundIn (Fence.wide.inRound l2) m' P l f tmps assign body w R := (roundAny (m' := m') h : RoundIn Fence.wide m' P l f tmps assign body w R)
theorem At.old {A A' : World} {g n : Nat} {t : TypeId} {cs : Array Value} {row : Option Nat} (h : At A g t cs) (hg : A.grownBy A' row) (hr : ∀ r, row = some r → n ≤ r) (hn : g < n) : At A' g t cs :=
  (hg.block g h.inside (fun e => by have := hr g e.symm; omega)).trans h
theorem good_nil : ∀ y ∈ ([] : List (Int × Int × Int)), good3 y = true := fun y hy => by cases hy
theorem good_app {a b : List (Int × Int × Int)} (ha : ∀ y ∈ a, good3 y = true) (hb : ∀ y ∈ b, good3 y = true) : ∀ y ∈ a ++ b, good3 y = true := fun y hy => (List.mem_append.1 hy).elim (ha y) (hb y)
theorem upTo_left {a b : List (Int × Int × Int)} (h : ¬ ∀ y ∈ a, good3 y = true) : upTo good3 (a ++ b) = upTo good3 a := by
  induction a with
  | nil => exact absurd (fun y hy => by cases hy) h
  | cons x a ih =>
    rw [List.cons_append]
    cases hx : good3 x
    · rw [upTo_bad hx, upTo_bad hx]
    · rw [upTo_good hx, upTo_good hx, ih]
      intro hh
      apply h
      intro y hy
      rcases List.mem_cons.1 hy with rfl | hy
      · exact hx
      · exact hh y hy

set_option maxRecDepth 100000 in
set_option maxHeartbeats 4000000 in
theorem looks_runs (s : Sc) (hfair : Fair s) (vR vC vL vD : Value) (us : List (Value × Value)) (Bv B0 B : Nat) (hB : B0 ≤ B) (I : List (Int × Int × Int) → World → Prop) (hI : ∀ p A, I p A → SceneAt B0 A vR vC vL vD us s)
    (hV : ∀ p A, I p A → At A Bv 77 #[vR, vC, vL, .int .i64 s.cm, .int .i64 s.rv, .int .i64 s.sch, vD]) :
    Runs Tryd.prog 33 #[] #[.pointer (some ⟨Bv, 0, none⟩)] enc3 good3 (allL s) B I := by
  intro l J W hWB h0 hJ hJI hY
  refine callsIn_wide.2 ((callsIn_wide (n := 3)).1 ?_)
  refine callsIn_of_wp_marks Tryd.func33 rfl trivial ?_ rfl
  simp only [Tryd.ntmps33, List.size_toArray, List.length_cons, List.length_nil, Nat.reduceAdd, Nat.reduceSub, Array.replicate_succ, Array.replicate_zero, List.push_toArray, List.append_toArray, List.nil_append, List.cons_append]
  have hWs : B ≤ W.heap.size := by omega
  have hPv := hV _ _ (hJI _ _ h0)
  have hBv : Bv < B := by have := hPv.inside; omega
  have v0 := hPv.cell 0
  have v1 := hPv.cell 1
  have v2 := hPv.cell 2
  have v3 := hPv.cell 3
  have v4 := hPv.cell 4
  have v5 := hPv.cell 5
  have v6 := hPv.cell 6
  simp at v0 v1 v2 v3 v4 v5 v6
  have hY' := Lib.hid hY
  have hI' := Lib.hid hI
  have hV' := Lib.hid hV
  have hfair' := Lib.hid hfair
  clear hY hI hV hfair
  -- the walk
  obtain ⟨F, hF⟩ : ∃ F : Array Value, #[.func (.func 34) #[.agg #[vR, vC, vL, .int .i64 s.cm, .int .i64 s.rv, .int .i64 s.sch, vD]] #[], .func (.func 35) #[.agg #[vR, vC, vL, .int .i64 s.cm, .int .i64 s.rv, .int .i64 s.sch, vD]] #[], .func (.func 36) #[.agg #[vR, vC, vL, .int .i64 s.cm, .int .i64 s.rv, .int .i64 s.sch, vD]] #[], .func (.func 37) #[.agg #[vR, vC, vL, .int .i64 s.cm, .int .i64 s.rv, .int .i64 s.sch, vD]] #[]] = F := ⟨_, rfl⟩
  obtain ⟨W0, hW0⟩ : ∃ W0, (W.alloc (.cells #[.func (.yield l) #[] #[]] 92)).alloc (.cells #[.func (.func 34) #[.agg #[vR, vC, vL, .int .i64 s.cm, .int .i64 s.rv, .int .i64 s.sch, vD]] #[], .func (.func 35) #[.agg #[vR, vC, vL, .int .i64 s.cm, .int .i64 s.rv, .int .i64 s.sch, vD]] #[], .func (.func 36) #[.agg #[vR, vC, vL, .int .i64 s.cm, .int .i64 s.rv, .int .i64 s.sch, vD]] #[], .func (.func 37) #[.agg #[vR, vC, vL, .int .i64 s.cm, .int .i64 s.rv, .int .i64 s.sch, vD]] #[]] 95) = W0 := ⟨_, rfl⟩
  have hy0 : At W0 B 92 #[.func (.yield l) #[] #[]] := by rw [← hW0]; exact (At.new_ _ _ _ hWB.symm).alloc _
  have hf0 : At W0 (B + 1) 95 #[.func (.func 34) #[.agg #[vR, vC, vL, .int .i64 s.cm, .int .i64 s.rv, .int .i64 s.sch, vD]] #[], .func (.func 35) #[.agg #[vR, vC, vL, .int .i64 s.cm, .int .i64 s.rv, .int .i64 s.sch, vD]] #[], .func (.func 36) #[.agg #[vR, vC, vL, .int .i64 s.cm, .int .i64 s.rv, .int .i64 s.sch, vD]] #[], .func (.func 37) #[.agg #[vR, vC, vL, .int .i64 s.cm, .int .i64 s.rv, .int .i64 s.sch, vD]] #[]] := by rw [← hW0]; exact At.new_ _ _ _ (by simp [hWB])
  have hj0 : J [] W0 := by rw [← hW0]; exact hJ.new (hJ.new h0 _) _
  have hs0 : B + 2 ≤ W0.heap.size := by rw [← hW0]; simp; omega
  have hnd0 : Hid (List.Nodup ([] : List Nat)) := Lib.hid List.nodup_nil
  have hm0 : Marks [] W0 := fun d hd => by cases hd
  have hW0' := Lib.hid hW0
  clear hW0 hF F
  gi_wp2_with fail
  rw [hW0'.out]
  refine wpIn_loop_rounds 5 ?_
  rw [roundsIn_succ]
  obtain ⟨n0, hn0⟩ : ∃ n, W0.heap.size + 1 = n := ⟨_, rfl⟩
  have f0 := hf0.cell 0
  simp at f0
  have hjV := hJ.new hj0 (.cells #[.int .i64 0] 3)
  have hyV := hy0.alloc (.cells #[.int .i64 0] 3)
  have hfV := hf0.alloc (.cells #[.int .i64 0] 3)
  have hpV := At.new W0 3 #[.int .i64 0]
  have hmV : Marks [] (W0.alloc (.cells #[.int .i64 0] 3)) := hm0.old (World.grownBy_alloc _ _ none) (n := W0.heap.size) (fun r e => by cases e) (fun d hd => hm0.inside hd)
  have hdm : ∀ d ∈ ([] : List Nat), B + 2 ≤ d ∧ d < n0 := by
    intro d hd
    refine ⟨?_, ?_⟩
    · simp at hd <;> omega
    · have := hm0.inside hd; omega
  have hjV' := Lib.hid hjV
  have hmV' := Lib.hid hmV
  have hdm' := Lib.hid hdm
  have hn' := Lib.hid hn0
  clear hjV hmV hdm hn0
  gi_wp2_with fail
  generalize hV0 : W0.alloc (.cells #[.int .i64 0] 3) = V at *
  have hVs : V.heap.size = n0 := by rw [← hV0]; simp; exact hn'.out
  clear hV0
  have hlt : W0.heap.size < n0 := by have := hn'.out; omega
  have hWn : B + 2 ≤ W0.heap.size := hs0
  have hIs : B ≤ V.heap.size := by omega
  clear hj0 hy0 hf0 hm0 hs0
  have hold : Old V.heap.size (fun pre w' => J ([] ++ tagL 0 pre) w' ∧ At w' B 92 #[.func (.yield l) #[] #[]] ∧ At w' (B + 1) 95 #[.func (.func 34) #[.agg #[vR, vC, vL, .int .i64 s.cm, .int .i64 s.rv, .int .i64 s.sch, vD]] #[], .func (.func 35) #[.agg #[vR, vC, vL, .int .i64 s.cm, .int .i64 s.rv, .int .i64 s.sch, vD]] #[], .func (.func 36) #[.agg #[vR, vC, vL, .int .i64 s.cm, .int .i64 s.rv, .int .i64 s.sch, vD]] #[], .func (.func 37) #[.agg #[vR, vC, vL, .int .i64 s.cm, .int .i64 s.rv, .int .i64 s.sch, vD]] #[]] ∧ At w' W0.heap.size 3 #[.int .i64 0] ∧ Marks [] w' ∧ n0 ≤ w'.heap.size) := by
    rintro pre A A' row ⟨a1, a2, a3, a4, a5, a6⟩ hgr hr
    have hr' : ∀ r, row = some r → n0 ≤ r := fun r e => by have := (hr r e).1; omega
    exact ⟨hJ _ A A' row a1 hgr (fun r e => ⟨by have := (hr r e).1; omega, (hr r e).2⟩), At.old a2 hgr hr' (by omega), At.old a3 hgr hr' (by omega), At.old a4 hgr hr' hlt, a5.old hgr hr' (fun d hd => (hdm'.out d hd).2), Nat.le_trans a6 hgr.size⟩
  refine rangesRound (gf := 34) (fst := #[.agg #[vR, vC, vL, .int .i64 s.cm, .int .i64 s.rv, .int .i64 s.sch, vD]]) (lb := #[]) rfl (enters_of Tryd.func34 (by kernel_rfl) rfl) (encs := enc2) (good := good2) (xs := (countsL s)) (fun _ => rfl)
    (fun pre w' => J ([] ++ tagL 0 pre) w' ∧ At w' B 92 #[.func (.yield l) #[] #[]] ∧ At w' (B + 1) 95 #[.func (.func 34) #[.agg #[vR, vC, vL, .int .i64 s.cm, .int .i64 s.rv, .int .i64 s.sch, vD]] #[], .func (.func 35) #[.agg #[vR, vC, vL, .int .i64 s.cm, .int .i64 s.rv, .int .i64 s.sch, vD]] #[], .func (.func 36) #[.agg #[vR, vC, vL, .int .i64 s.cm, .int .i64 s.rv, .int .i64 s.sch, vD]] #[], .func (.func 37) #[.agg #[vR, vC, vL, .int .i64 s.cm, .int .i64 s.rv, .int .i64 s.sch, vD]] #[]] ∧ At w' W0.heap.size 3 #[.int .i64 0] ∧ Marks [] w' ∧ n0 ≤ w'.heap.size) hold ⟨by simpa [tagL] using hjV'.out, hyV, hfV, hpV, hmV'.out, by omega⟩ (counts_runs s vR vC vL vD us B0 _ (by omega) _ (fun p A h => hI'.out _ _ (hJI _ _ h.1))) ?round0 ?done0 ?stop0
  case round0 =>
    clear hold hyV hfV hpV
    rintro l2 pre x Wr hW2 - hg
    dsimp only [enc2]
    gi_wp2
    refine ⟨World.grownBy.refl _ _, fun Vr _ _ ⟨hj, hy, hf, hp, hm, hs⟩ => ?_⟩
    have y0 := hy.cell 0
    have p0 := hp.cell 0
    simp at y0 p0
    obtain ⟨fn, tmps, assign, body, hyy, hR⟩ := hY'.out 1 _ (x.2, 0, x.1) Vr hj (good_app good_nil (tagL_good.2 hg)) (by omega)
    dsimp only [enc3] at hyy
    gi_wp2_with fail
    refine (roundInside hR).mono ?_
    clear hR hyy
    rintro e wz ⟨rfl, hj4, hk4⟩
    have hfin : (fun pre w' => J ([] ++ tagL 0 pre) w' ∧ At w' B 92 #[.func (.yield l) #[] #[]] ∧ At w' (B + 1) 95 #[.func (.func 34) #[.agg #[vR, vC, vL, .int .i64 s.cm, .int .i64 s.rv, .int .i64 s.sch, vD]] #[], .func (.func 35) #[.agg #[vR, vC, vL, .int .i64 s.cm, .int .i64 s.rv, .int .i64 s.sch, vD]] #[], .func (.func 36) #[.agg #[vR, vC, vL, .int .i64 s.cm, .int .i64 s.rv, .int .i64 s.sch, vD]] #[], .func (.func 37) #[.agg #[vR, vC, vL, .int .i64 s.cm, .int .i64 s.rv, .int .i64 s.sch, vD]] #[]] ∧ At w' W0.heap.size 3 #[.int .i64 0] ∧ Marks [] w' ∧ n0 ≤ w'.heap.size) (pre ++ [x]) wz := ⟨by rw [tagL_snoc, ← List.append_assoc]; exact hj4, At.kept hy hk4 (Nat.le_refl _), At.kept hf hk4 (by omega), At.kept hp hk4 (by omega), hm.kept hk4 (fun d hd => by have := (hdm'.out d hd).1; omega), Nat.le_trans hs hk4.size⟩
    have hfin' := Lib.hid hfin
    have hk' : Kept n0 Vr wz := hk4.mono (by omega)
    clear hfin hj4 hj hy hf hp hm hk4 y0 p0
    cases hgood : good3 (x.2, 0, x.1)
    · gi_wp2
      exact ⟨hgood, by first | exact hfin'.out | simpa using hfin'.out, hk'⟩
    · gi_wp2
      exact ⟨hgood, by first | exact hfin'.out | simpa using hfin'.out, hk'⟩
  case stop0 =>
    clear hold hyV hfV hpV
    rintro Wr hW2 ⟨hj, hy, hf, hp, hm, hs⟩ hbad hD
    rw [hVs] at hD ⊢
    have hD' := Lib.hid hD
    clear hD
    gi_wp2
    refine leave_marks (R := fun e A' => (∃ v, e = .returned v) ∧ J (upTo good3 (allL s)) A') (B := B) (J := fun A => J (upTo good3 (allL s)) A) (fun W' => results_none (fn := Tryd.f33) rfl _ _ _) (fun A d o h hd ho => hJ _ _ _ _ h (grownBy_putObj' A d o) (fun r e => by cases e; exact ⟨hd, ho⟩)) (fun W' h => ⟨⟨_, rfl⟩, h⟩) [n0] Wr ?_ (hm.cons hD'.out) ?_ ?_
    · refine List.nodup_cons.2 ⟨fun h => ?_, hnd0.out⟩
      have := (hdm'.out _ h).2
      omega
    · intro d hd
      rcases List.mem_cons.1 hd with rfl | hd
      · omega
      · have := (hdm'.out d hd).1; omega
    · have e : upTo good3 (allL s) = [] ++ tagL 0 (upTo good2 (countsL s)) := by
        rw [tagL_upTo, show allL s = [] ++ (tagL 0 (countsL s) ++ (tagL 1 (reqsL 0 s.reqs) ++ (tagL 2 (carriersL s) ++ tagL 3 (lotsL s)))) by simp [allL], upTo_append good_nil, upTo_left (fun h => hbad (tagL_good.1 h))]
      rw [e]
      exact hj
  clear hold hyV hfV hpV
  rintro W1 hW2 ⟨hj1, hy1, hf1, hp, hm, hs⟩ hall0 hD
  rw [hVs] at hD ⊢
  have hm1 := hm.cons hD
  have hs1 : B + 2 ≤ W1.heap.size := by omega
  have hnd1 : Hid (List.Nodup [n0]) := Lib.hid (List.nodup_cons.2 ⟨fun h => by have := (hdm'.out _ h).2; omega, hnd0.out⟩)
  clear hm hD hp hs hW2 hIs hVs hdm' hjV' hmV' f0
  gi_wp2_with fail
  rw [roundsIn_succ]
  obtain ⟨n1, hn1⟩ : ∃ n, W1.heap.size + 1 = n := ⟨_, rfl⟩
  have f1 := hf1.cell 1
  simp at f1
  have hjV := hJ.new hj1 (.cells #[.int .i64 1] 3)
  have hyV := hy1.alloc (.cells #[.int .i64 1] 3)
  have hfV := hf1.alloc (.cells #[.int .i64 1] 3)
  have hpV := At.new W1 3 #[.int .i64 1]
  have hmV : Marks [n0] (W1.alloc (.cells #[.int .i64 1] 3)) := hm1.old (World.grownBy_alloc _ _ none) (n := W1.heap.size) (fun r e => by cases e) (fun d hd => hm1.inside hd)
  have hdm : ∀ d ∈ ([n0] : List Nat), B + 2 ≤ d ∧ d < n1 := by
    intro d hd
    refine ⟨?_, ?_⟩
    · simp at hd <;> omega
    · have := hm1.inside hd; omega
  have hjV' := Lib.hid hjV
  have hmV' := Lib.hid hmV
  have hdm' := Lib.hid hdm
  have hn' := Lib.hid hn1
  clear hjV hmV hdm hn1
  gi_wp2_with fail
  generalize hV1 : W1.alloc (.cells #[.int .i64 1] 3) = V at *
  have hVs : V.heap.size = n1 := by rw [← hV1]; simp; exact hn'.out
  clear hV1
  have hlt : W1.heap.size < n1 := by have := hn'.out; omega
  have hWn : B + 2 ≤ W1.heap.size := hs1
  have hIs : B ≤ V.heap.size := by omega
  clear hj1 hy1 hf1 hm1 hs1
  have hold : Old V.heap.size (fun pre w' => J (([] ++ tagL 0 (countsL s)) ++ tagL 1 pre) w' ∧ At w' B 92 #[.func (.yield l) #[] #[]] ∧ At w' (B + 1) 95 #[.func (.func 34) #[.agg #[vR, vC, vL, .int .i64 s.cm, .int .i64 s.rv, .int .i64 s.sch, vD]] #[], .func (.func 35) #[.agg #[vR, vC, vL, .int .i64 s.cm, .int .i64 s.rv, .int .i64 s.sch, vD]] #[], .func (.func 36) #[.agg #[vR, vC, vL, .int .i64 s.cm, .int .i64 s.rv, .int .i64 s.sch, vD]] #[], .func (.func 37) #[.agg #[vR, vC, vL, .int .i64 s.cm, .int .i64 s.rv, .int .i64 s.sch, vD]] #[]] ∧ At w' W1.heap.size 3 #[.int .i64 1] ∧ Marks [n0] w' ∧ n1 ≤ w'.heap.size) := by
    rintro pre A A' row ⟨a1, a2, a3, a4, a5, a6⟩ hgr hr
    have hr' : ∀ r, row = some r → n1 ≤ r := fun r e => by have := (hr r e).1; omega
    exact ⟨hJ _ A A' row a1 hgr (fun r e => ⟨by have := (hr r e).1; omega, (hr r e).2⟩), At.old a2 hgr hr' (by omega), At.old a3 hgr hr' (by omega), At.old a4 hgr hr' hlt, a5.old hgr hr' (fun d hd => (hdm'.out d hd).2), Nat.le_trans a6 hgr.size⟩
  refine rangesRound (gf := 35) (fst := #[.agg #[vR, vC, vL, .int .i64 s.cm, .int .i64 s.rv, .int .i64 s.sch, vD]]) (lb := #[]) rfl (enters_of Tryd.func35 (by kernel_rfl) rfl) (encs := enc2) (good := good2) (xs := (reqsL 0 s.reqs)) (fun _ => rfl)
    (fun pre w' => J (([] ++ tagL 0 (countsL s)) ++ tagL 1 pre) w' ∧ At w' B 92 #[.func (.yield l) #[] #[]] ∧ At w' (B + 1) 95 #[.func (.func 34) #[.agg #[vR, vC, vL, .int .i64 s.cm, .int .i64 s.rv, .int .i64 s.sch, vD]] #[], .func (.func 35) #[.agg #[vR, vC, vL, .int .i64 s.cm, .int .i64 s.rv, .int .i64 s.sch, vD]] #[], .func (.func 36) #[.agg #[vR, vC, vL, .int .i64 s.cm, .int .i64 s.rv, .int .i64 s.sch, vD]] #[], .func (.func 37) #[.agg #[vR, vC, vL, .int .i64 s.cm, .int .i64 s.rv, .int .i64 s.sch, vD]] #[]] ∧ At w' W1.heap.size 3 #[.int .i64 1] ∧ Marks [n0] w' ∧ n1 ≤ w'.heap.size) hold ⟨by simpa [tagL] using hjV'.out, hyV, hfV, hpV, hmV'.out, by omega⟩ (requests_runs s vR vC vL vD us s.cm s.rv s.sch B0 _ (by omega) _ (fun p A h => hI'.out _ _ (hJI _ _ h.1))) ?round1 ?done1 ?stop1
  case round1 =>
    clear hold hyV hfV hpV
    rintro l2 pre x Wr hW2 - hg
    dsimp only [enc2]
    gi_wp2
    refine ⟨World.grownBy.refl _ _, fun Vr _ _ ⟨hj, hy, hf, hp, hm, hs⟩ => ?_⟩
    have y0 := hy.cell 0
    have p0 := hp.cell 0
    simp at y0 p0
    obtain ⟨fn, tmps, assign, body, hyy, hR⟩ := hY'.out 1 _ (x.2, 1, x.1) Vr hj (good_app (good_app good_nil (tagL_good.2 hall0)) (tagL_good.2 hg)) (by omega)
    dsimp only [enc3] at hyy
    gi_wp2_with fail
    refine (roundInside hR).mono ?_
    clear hR hyy
    rintro e wz ⟨rfl, hj4, hk4⟩
    have hfin : (fun pre w' => J (([] ++ tagL 0 (countsL s)) ++ tagL 1 pre) w' ∧ At w' B 92 #[.func (.yield l) #[] #[]] ∧ At w' (B + 1) 95 #[.func (.func 34) #[.agg #[vR, vC, vL, .int .i64 s.cm, .int .i64 s.rv, .int .i64 s.sch, vD]] #[], .func (.func 35) #[.agg #[vR, vC, vL, .int .i64 s.cm, .int .i64 s.rv, .int .i64 s.sch, vD]] #[], .func (.func 36) #[.agg #[vR, vC, vL, .int .i64 s.cm, .int .i64 s.rv, .int .i64 s.sch, vD]] #[], .func (.func 37) #[.agg #[vR, vC, vL, .int .i64 s.cm, .int .i64 s.rv, .int .i64 s.sch, vD]] #[]] ∧ At w' W1.heap.size 3 #[.int .i64 1] ∧ Marks [n0] w' ∧ n1 ≤ w'.heap.size) (pre ++ [x]) wz := ⟨by rw [tagL_snoc, ← List.append_assoc]; exact hj4, At.kept hy hk4 (Nat.le_refl _), At.kept hf hk4 (by omega), At.kept hp hk4 (by omega), hm.kept hk4 (fun d hd => by have := (hdm'.out d hd).1; omega), Nat.le_trans hs hk4.size⟩
    have hfin' := Lib.hid hfin
    have hk' : Kept n1 Vr wz := hk4.mono (by omega)
    clear hfin hj4 hj hy hf hp hm hk4 y0 p0
    cases hgood : good3 (x.2, 1, x.1)
    · gi_wp2
      exact ⟨hgood, by first | exact hfin'.out | simpa using hfin'.out, hk'⟩
    · gi_wp2
      exact ⟨hgood, by first | exact hfin'.out | simpa using hfin'.out, hk'⟩
  case stop1 =>
    clear hold hyV hfV hpV
    rintro Wr hW2 ⟨hj, hy, hf, hp, hm, hs⟩ hbad hD
    rw [hVs] at hD ⊢
    have hD' := Lib.hid hD
    clear hD
    gi_wp2
    refine leave_marks (R := fun e A' => (∃ v, e = .returned v) ∧ J (upTo good3 (allL s)) A') (B := B) (J := fun A => J (upTo good3 (allL s)) A) (fun W' => results_none (fn := Tryd.f33) rfl _ _ _) (fun A d o h hd ho => hJ _ _ _ _ h (grownBy_putObj' A d o) (fun r e => by cases e; exact ⟨hd, ho⟩)) (fun W' h => ⟨⟨_, rfl⟩, h⟩) [n1, n0] Wr ?_ (hm.cons hD'.out) ?_ ?_
    · refine List.nodup_cons.2 ⟨fun h => ?_, hnd1.out⟩
      have := (hdm'.out _ h).2
      omega
    · intro d hd
      rcases List.mem_cons.1 hd with rfl | hd
      · omega
      · have := (hdm'.out d hd).1; omega
    · have e : upTo good3 (allL s) = ([] ++ tagL 0 (countsL s)) ++ tagL 1 (upTo good2 (reqsL 0 s.reqs)) := by
        rw [tagL_upTo, show allL s = ([] ++ tagL 0 (countsL s)) ++ (tagL 1 (reqsL 0 s.reqs) ++ (tagL 2 (carriersL s) ++ tagL 3 (lotsL s))) by simp [allL], upTo_append (good_app good_nil (tagL_good.2 hall0)), upTo_left (fun h => hbad (tagL_good.1 h))]
      rw [e]
      exact hj
  clear hold hyV hfV hpV
  rintro W2 hW2 ⟨hj2, hy2, hf2, hp, hm, hs⟩ hall1 hD
  rw [hVs] at hD ⊢
  have hm2 := hm.cons hD
  have hs2 : B + 2 ≤ W2.heap.size := by omega
  have hnd2 : Hid (List.Nodup [n1, n0]) := Lib.hid (List.nodup_cons.2 ⟨fun h => by have := (hdm'.out _ h).2; omega, hnd1.out⟩)
  clear hm hD hp hs hW2 hIs hVs hdm' hjV' hmV' f1
  gi_wp2_with fail
  rw [roundsIn_succ]
  obtain ⟨n2, hn2⟩ : ∃ n, W2.heap.size + 1 = n := ⟨_, rfl⟩
  have f2 := hf2.cell 2
  simp at f2
  have hjV := hJ.new hj2 (.cells #[.int .i64 2] 3)
  have hyV := hy2.alloc (.cells #[.int .i64 2] 3)
  have hfV := hf2.alloc (.cells #[.int .i64 2] 3)
  have hpV := At.new W2 3 #[.int .i64 2]
  have hmV : Marks [n1, n0] (W2.alloc (.cells #[.int .i64 2] 3)) := hm2.old (World.grownBy_alloc _ _ none) (n := W2.heap.size) (fun r e => by cases e) (fun d hd => hm2.inside hd)
  have hdm : ∀ d ∈ ([n1, n0] : List Nat), B + 2 ≤ d ∧ d < n2 := by
    intro d hd
    refine ⟨?_, ?_⟩
    · simp at hd <;> omega
    · have := hm2.inside hd; omega
  have hjV' := Lib.hid hjV
  have hmV' := Lib.hid hmV
  have hdm' := Lib.hid hdm
  have hn' := Lib.hid hn2
  clear hjV hmV hdm hn2
  gi_wp2_with fail
  generalize hV2 : W2.alloc (.cells #[.int .i64 2] 3) = V at *
  have hVs : V.heap.size = n2 := by rw [← hV2]; simp; exact hn'.out
  clear hV2
  have hlt : W2.heap.size < n2 := by have := hn'.out; omega
  have hWn : B + 2 ≤ W2.heap.size := hs2
  have hIs : B ≤ V.heap.size := by omega
  clear hj2 hy2 hf2 hm2 hs2
  have hold : Old V.heap.size (fun pre w' => J ((([] ++ tagL 0 (countsL s)) ++ tagL 1 (reqsL 0 s.reqs)) ++ tagL 2 pre) w' ∧ At w' B 92 #[.func (.yield l) #[] #[]] ∧ At w' (B + 1) 95 #[.func (.func 34) #[.agg #[vR, vC, vL, .int .i64 s.cm, .int .i64 s.rv, .int .i64 s.sch, vD]] #[], .func (.func 35) #[.agg #[vR, vC, vL, .int .i64 s.cm, .int .i64 s.rv, .int .i64 s.sch, vD]] #[], .func (.func 36) #[.agg #[vR, vC, vL, .int .i64 s.cm, .int .i64 s.rv, .int .i64 s.sch, vD]] #[], .func (.func 37) #[.agg #[vR, vC, vL, .int .i64 s.cm, .int .i64 s.rv, .int .i64 s.sch, vD]] #[]] ∧ At w' W2.heap.size 3 #[.int .i64 2] ∧ Marks [n1, n0] w' ∧ n2 ≤ w'.heap.size) := by
    rintro pre A A' row ⟨a1, a2, a3, a4, a5, a6⟩ hgr hr
    have hr' : ∀ r, row = some r → n2 ≤ r := fun r e => by have := (hr r e).1; omega
    exact ⟨hJ _ A A' row a1 hgr (fun r e => ⟨by have := (hr r e).1; omega, (hr r e).2⟩), At.old a2 hgr hr' (by omega), At.old a3 hgr hr' (by omega), At.old a4 hgr hr' hlt, a5.old hgr hr' (fun d hd => (hdm'.out d hd).2), Nat.le_trans a6 hgr.size⟩
  refine rangesRound (gf := 36) (fst := #[.agg #[vR, vC, vL, .int .i64 s.cm, .int .i64 s.rv, .int .i64 s.sch, vD]]) (lb := #[]) rfl (enters_of Tryd.func36 (by kernel_rfl) rfl) (encs := enc2) (good := good2) (xs := (carriersL s)) (fun _ => rfl)
    (fun pre w' => J ((([] ++ tagL 0 (countsL s)) ++ tagL 1 (reqsL 0 s.reqs)) ++ tagL 2 pre) w' ∧ At w' B 92 #[.func (.yield l) #[] #[]] ∧ At w' (B + 1) 95 #[.func (.func 34) #[.agg #[vR, vC, vL, .int .i64 s.cm, .int .i64 s.rv, .int .i64 s.sch, vD]] #[], .func (.func 35) #[.agg #[vR, vC, vL, .int .i64 s.cm, .int .i64 s.rv, .int .i64 s.sch, vD]] #[], .func (.func 36) #[.agg #[vR, vC, vL, .int .i64 s.cm, .int .i64 s.rv, .int .i64 s.sch, vD]] #[], .func (.func 37) #[.agg #[vR, vC, vL, .int .i64 s.cm, .int .i64 s.rv, .int .i64 s.sch, vD]] #[]] ∧ At w' W2.heap.size 3 #[.int .i64 2] ∧ Marks [n1, n0] w' ∧ n2 ≤ w'.heap.size) hold ⟨by simpa [tagL] using hjV'.out, hyV, hfV, hpV, hmV'.out, by omega⟩ (carriers_runs s hfair'.out vR vC vL vD us s.cm s.rv s.sch B0 _ (by omega) _ (fun p A h => hI'.out _ _ (hJI _ _ h.1))) ?round2 ?done2 ?stop2
  case round2 =>
    clear hold hyV hfV hpV
    rintro l2 pre x Wr hW2 - hg
    dsimp only [enc2]
    gi_wp2
    refine ⟨World.grownBy.refl _ _, fun Vr _ _ ⟨hj, hy, hf, hp, hm, hs⟩ => ?_⟩
    have y0 := hy.cell 0
    have p0 := hp.cell 0
    simp at y0 p0
    obtain ⟨fn, tmps, assign, body, hyy, hR⟩ := hY'.out 1 _ (x.2, 2, x.1) Vr hj (good_app (good_app (good_app good_nil (tagL_good.2 hall0)) (tagL_good.2 hall1)) (tagL_good.2 hg)) (by omega)
    dsimp only [enc3] at hyy
    gi_wp2_with fail
    refine (roundInside hR).mono ?_
    clear hR hyy
    rintro e wz ⟨rfl, hj4, hk4⟩
    have hfin : (fun pre w' => J ((([] ++ tagL 0 (countsL s)) ++ tagL 1 (reqsL 0 s.reqs)) ++ tagL 2 pre) w' ∧ At w' B 92 #[.func (.yield l) #[] #[]] ∧ At w' (B + 1) 95 #[.func (.func 34) #[.agg #[vR, vC, vL, .int .i64 s.cm, .int .i64 s.rv, .int .i64 s.sch, vD]] #[], .func (.func 35) #[.agg #[vR, vC, vL, .int .i64 s.cm, .int .i64 s.rv, .int .i64 s.sch, vD]] #[], .func (.func 36) #[.agg #[vR, vC, vL, .int .i64 s.cm, .int .i64 s.rv, .int .i64 s.sch, vD]] #[], .func (.func 37) #[.agg #[vR, vC, vL, .int .i64 s.cm, .int .i64 s.rv, .int .i64 s.sch, vD]] #[]] ∧ At w' W2.heap.size 3 #[.int .i64 2] ∧ Marks [n1, n0] w' ∧ n2 ≤ w'.heap.size) (pre ++ [x]) wz := ⟨by rw [tagL_snoc, ← List.append_assoc]; exact hj4, At.kept hy hk4 (Nat.le_refl _), At.kept hf hk4 (by omega), At.kept hp hk4 (by omega), hm.kept hk4 (fun d hd => by have := (hdm'.out d hd).1; omega), Nat.le_trans hs hk4.size⟩
    have hfin' := Lib.hid hfin
    have hk' : Kept n2 Vr wz := hk4.mono (by omega)
    clear hfin hj4 hj hy hf hp hm hk4 y0 p0
    cases hgood : good3 (x.2, 2, x.1)
    · gi_wp2
      exact ⟨hgood, by first | exact hfin'.out | simpa using hfin'.out, hk'⟩
    · gi_wp2
      exact ⟨hgood, by first | exact hfin'.out | simpa using hfin'.out, hk'⟩
  case stop2 =>
    clear hold hyV hfV hpV
    rintro Wr hW2 ⟨hj, hy, hf, hp, hm, hs⟩ hbad hD
    rw [hVs] at hD ⊢
    have hD' := Lib.hid hD
    clear hD
    gi_wp2
    refine leave_marks (R := fun e A' => (∃ v, e = .returned v) ∧ J (upTo good3 (allL s)) A') (B := B) (J := fun A => J (upTo good3 (allL s)) A) (fun W' => results_none (fn := Tryd.f33) rfl _ _ _) (fun A d o h hd ho => hJ _ _ _ _ h (grownBy_putObj' A d o) (fun r e => by cases e; exact ⟨hd, ho⟩)) (fun W' h => ⟨⟨_, rfl⟩, h⟩) [n2, n1, n0] Wr ?_ (hm.cons hD'.out) ?_ ?_
    · refine List.nodup_cons.2 ⟨fun h => ?_, hnd2.out⟩
      have := (hdm'.out _ h).2
      omega
    · intro d hd
      rcases List.mem_cons.1 hd with rfl | hd
      · omega
      · have := (hdm'.out d hd).1; omega
    · have e : upTo good3 (allL s) = (([] ++ tagL 0 (countsL s)) ++ tagL 1 (reqsL 0 s.reqs)) ++ tagL 2 (upTo good2 (carriersL s)) := by
        rw [tagL_upTo, show allL s = (([] ++ tagL 0 (countsL s)) ++ tagL 1 (reqsL 0 s.reqs)) ++ (tagL 2 (carriersL s) ++ tagL 3 (lotsL s)) by simp [allL], upTo_append (good_app (good_app good_nil (tagL_good.2 hall0)) (tagL_good.2 hall1)), upTo_left (fun h => hbad (tagL_good.1 h))]
      rw [e]
      exact hj
  clear hold hyV hfV hpV
  rintro W3 hW2 ⟨hj3, hy3, hf3, hp, hm, hs⟩ hall2 hD
  rw [hVs] at hD ⊢
  have hm3 := hm.cons hD
  have hs3 : B + 2 ≤ W3.heap.size := by omega
  have hnd3 : Hid (List.Nodup [n2, n1, n0]) := Lib.hid (List.nodup_cons.2 ⟨fun h => by have := (hdm'.out _ h).2; omega, hnd2.out⟩)
  clear hm hD hp hs hW2 hIs hVs hdm' hjV' hmV' f2
  gi_wp2_with fail
  rw [roundsIn_succ]
  obtain ⟨n3, hn3⟩ : ∃ n, W3.heap.size + 1 = n := ⟨_, rfl⟩
  have f3 := hf3.cell 3
  simp at f3
  have hjV := hJ.new hj3 (.cells #[.int .i64 3] 3)
  have hyV := hy3.alloc (.cells #[.int .i64 3] 3)
  have hfV := hf3.alloc (.cells #[.int .i64 3] 3)
  have hpV := At.new W3 3 #[.int .i64 3]
  have hmV : Marks [n2, n1, n0] (W3.alloc (.cells #[.int .i64 3] 3)) := hm3.old (World.grownBy_alloc _ _ none) (n := W3.heap.size) (fun r e => by cases e) (fun d hd => hm3.inside hd)
  have hdm : ∀ d ∈ ([n2, n1, n0] : List Nat), B + 2 ≤ d ∧ d < n3 := by
    intro d hd
    refine ⟨?_, ?_⟩
    · simp at hd <;> omega
    · have := hm3.inside hd; omega
  have hjV' := Lib.hid hjV
  have hmV' := Lib.hid hmV
  have hdm' := Lib.hid hdm
  have hn' := Lib.hid hn3
  clear hjV hmV hdm hn3
  gi_wp2_with fail
  generalize hV3 : W3.alloc (.cells #[.int .i64 3] 3) = V at *
  have hVs : V.heap.size = n3 := by rw [← hV3]; simp; exact hn'.out
  clear hV3
  have hlt : W3.heap.size < n3 := by have := hn'.out; omega
  have hWn : B + 2 ≤ W3.heap.size := hs3
  have hIs : B ≤ V.heap.size := by omega
  clear hj3 hy3 hf3 hm3 hs3
  have hold : Old V.heap.size (fun pre w' => J (((([] ++ tagL 0 (countsL s)) ++ tagL 1 (reqsL 0 s.reqs)) ++ tagL 2 (carriersL s)) ++ tagL 3 pre) w' ∧ At w' B 92 #[.func (.yield l) #[] #[]] ∧ At w' (B + 1) 95 #[.func (.func 34) #[.agg #[vR, vC, vL, .int .i64 s.cm, .int .i64 s.rv, .int .i64 s.sch, vD]] #[], .func (.func 35) #[.agg #[vR, vC, vL, .int .i64 s.cm, .int .i64 s.rv, .int .i64 s.sch, vD]] #[], .func (.func 36) #[.agg #[vR, vC, vL, .int .i64 s.cm, .int .i64 s.rv, .int .i64 s.sch, vD]] #[], .func (.func 37) #[.agg #[vR, vC, vL, .int .i64 s.cm, .int .i64 s.rv, .int .i64 s.sch, vD]] #[]] ∧ At w' W3.heap.size 3 #[.int .i64 3] ∧ Marks [n2, n1, n0] w' ∧ n3 ≤ w'.heap.size) := by
    rintro pre A A' row ⟨a1, a2, a3, a4, a5, a6⟩ hgr hr
    have hr' : ∀ r, row = some r → n3 ≤ r := fun r e => by have := (hr r e).1; omega
    exact ⟨hJ _ A A' row a1 hgr (fun r e => ⟨by have := (hr r e).1; omega, (hr r e).2⟩), At.old a2 hgr hr' (by omega), At.old a3 hgr hr' (by omega), At.old a4 hgr hr' hlt, a5.old hgr hr' (fun d hd => (hdm'.out d hd).2), Nat.le_trans a6 hgr.size⟩
  refine rangesRound (gf := 37) (fst := #[.agg #[vR, vC, vL, .int .i64 s.cm, .int .i64 s.rv, .int .i64 s.sch, vD]]) (lb := #[]) rfl (enters_of Tryd.func37 (by kernel_rfl) rfl) (encs := enc2) (good := good2) (xs := (lotsL s)) (fun _ => rfl)
    (fun pre w' => J (((([] ++ tagL 0 (countsL s)) ++ tagL 1 (reqsL 0 s.reqs)) ++ tagL 2 (carriersL s)) ++ tagL 3 pre) w' ∧ At w' B 92 #[.func (.yield l) #[] #[]] ∧ At w' (B + 1) 95 #[.func (.func 34) #[.agg #[vR, vC, vL, .int .i64 s.cm, .int .i64 s.rv, .int .i64 s.sch, vD]] #[], .func (.func 35) #[.agg #[vR, vC, vL, .int .i64 s.cm, .int .i64 s.rv, .int .i64 s.sch, vD]] #[], .func (.func 36) #[.agg #[vR, vC, vL, .int .i64 s.cm, .int .i64 s.rv, .int .i64 s.sch, vD]] #[], .func (.func 37) #[.agg #[vR, vC, vL, .int .i64 s.cm, .int .i64 s.rv, .int .i64 s.sch, vD]] #[]] ∧ At w' W3.heap.size 3 #[.int .i64 3] ∧ Marks [n2, n1, n0] w' ∧ n3 ≤ w'.heap.size) hold ⟨by simpa [tagL] using hjV'.out, hyV, hfV, hpV, hmV'.out, by omega⟩ (lots_runs s hfair'.out vR vC vL vD us s.cm s.rv s.sch B0 _ (by omega) _ (fun p A h => hI'.out _ _ (hJI _ _ h.1))) ?round3 ?done3 ?stop3
  case round3 =>
    clear hold hyV hfV hpV
    rintro l2 pre x Wr hW2 - hg
    dsimp only [enc2]
    gi_wp2
    refine ⟨World.grownBy.refl _ _, fun Vr _ _ ⟨hj, hy, hf, hp, hm, hs⟩ => ?_⟩
    have y0 := hy.cell 0
    have p0 := hp.cell 0
    simp at y0 p0
    obtain ⟨fn, tmps, assign, body, hyy, hR⟩ := hY'.out 1 _ (x.2, 3, x.1) Vr hj (good_app (good_app (good_app (good_app good_nil (tagL_good.2 hall0)) (tagL_good.2 hall1)) (tagL_good.2 hall2)) (tagL_good.2 hg)) (by omega)
    dsimp only [enc3] at hyy
    gi_wp2_with fail
    refine (roundInside hR).mono ?_
    clear hR hyy
    rintro e wz ⟨rfl, hj4, hk4⟩
    have hfin : (fun pre w' => J (((([] ++ tagL 0 (countsL s)) ++ tagL 1 (reqsL 0 s.reqs)) ++ tagL 2 (carriersL s)) ++ tagL 3 pre) w' ∧ At w' B 92 #[.func (.yield l) #[] #[]] ∧ At w' (B + 1) 95 #[.func (.func 34) #[.agg #[vR, vC, vL, .int .i64 s.cm, .int .i64 s.rv, .int .i64 s.sch, vD]] #[], .func (.func 35) #[.agg #[vR, vC, vL, .int .i64 s.cm, .int .i64 s.rv, .int .i64 s.sch, vD]] #[], .func (.func 36) #[.agg #[vR, vC, vL, .int .i64 s.cm, .int .i64 s.rv, .int .i64 s.sch, vD]] #[], .func (.func 37) #[.agg #[vR, vC, vL, .int .i64 s.cm, .int .i64 s.rv, .int .i64 s.sch, vD]] #[]] ∧ At w' W3.heap.size 3 #[.int .i64 3] ∧ Marks [n2, n1, n0] w' ∧ n3 ≤ w'.heap.size) (pre ++ [x]) wz := ⟨by rw [tagL_snoc, ← List.append_assoc]; exact hj4, At.kept hy hk4 (Nat.le_refl _), At.kept hf hk4 (by omega), At.kept hp hk4 (by omega), hm.kept hk4 (fun d hd => by have := (hdm'.out d hd).1; omega), Nat.le_trans hs hk4.size⟩
    have hfin' := Lib.hid hfin
    have hk' : Kept n3 Vr wz := hk4.mono (by omega)
    clear hfin hj4 hj hy hf hp hm hk4 y0 p0
    cases hgood : good3 (x.2, 3, x.1)
    · gi_wp2
      exact ⟨hgood, by first | exact hfin'.out | simpa using hfin'.out, hk'⟩
    · gi_wp2
      exact ⟨hgood, by first | exact hfin'.out | simpa using hfin'.out, hk'⟩
  case stop3 =>
    clear hold hyV hfV hpV
    rintro Wr hW2 ⟨hj, hy, hf, hp, hm, hs⟩ hbad hD
    rw [hVs] at hD ⊢
    have hD' := Lib.hid hD
    clear hD
    gi_wp2
    refine leave_marks (R := fun e A' => (∃ v, e = .returned v) ∧ J (upTo good3 (allL s)) A') (B := B) (J := fun A => J (upTo good3 (allL s)) A) (fun W' => results_none (fn := Tryd.f33) rfl _ _ _) (fun A d o h hd ho => hJ _ _ _ _ h (grownBy_putObj' A d o) (fun r e => by cases e; exact ⟨hd, ho⟩)) (fun W' h => ⟨⟨_, rfl⟩, h⟩) [n3, n2, n1, n0] Wr ?_ (hm.cons hD'.out) ?_ ?_
    · refine List.nodup_cons.2 ⟨fun h => ?_, hnd3.out⟩
      have := (hdm'.out _ h).2
      omega
    · intro d hd
      rcases List.mem_cons.1 hd with rfl | hd
      · omega
      · have := (hdm'.out d hd).1; omega
    · have e : upTo good3 (allL s) = ((([] ++ tagL 0 (countsL s)) ++ tagL 1 (reqsL 0 s.reqs)) ++ tagL 2 (carriersL s)) ++ tagL 3 (upTo good2 (lotsL s)) := by
        rw [tagL_upTo, show allL s = ((([] ++ tagL 0 (countsL s)) ++ tagL 1 (reqsL 0 s.reqs)) ++ tagL 2 (carriersL s)) ++ (tagL 3 (lotsL s) ++ []) by simp [allL], upTo_append (good_app (good_app (good_app good_nil (tagL_good.2 hall0)) (tagL_good.2 hall1)) (tagL_good.2 hall2)), upTo_left (fun h => hbad (tagL_good.1 h))]
      rw [e]
      exact hj
  clear hold hyV hfV hpV
  rintro W4 hW2 ⟨hj4, hy4, hf4, hp, hm, hs⟩ hall3 hD
  rw [hVs] at hD ⊢
  have hm4 := hm.cons hD
  have hs4 : B + 2 ≤ W4.heap.size := by omega
  have hnd4 : Hid (List.Nodup [n3, n2, n1, n0]) := Lib.hid (List.nodup_cons.2 ⟨fun h => by have := (hdm'.out _ h).2; omega, hnd3.out⟩)
  clear hm hD hp hs hW2 hIs hVs hdm' hjV' hmV' f3
  gi_wp2_with fail
  rw [roundsIn_succ]
  gi_wp2
  refine leave_marks (R := fun e A' => (∃ v, e = .returned v) ∧ J (upTo good3 (allL s)) A') (B := B) (J := fun A => J (upTo good3 (allL s)) A) (fun W' => results_none (fn := Tryd.f33) rfl _ _ _) (fun A d o h hd ho => hJ _ _ _ _ h (grownBy_putObj' A d o) (fun r e => by cases e; exact ⟨hd, ho⟩)) (fun W' h => ⟨⟨_, rfl⟩, h⟩) [n3, n2, n1, n0] W4 hnd4.out hm4 ?_ ?_
  · intro d hd
    simp at hd
    omega
  · have e : upTo good3 (allL s) = (((([] ++ tagL 0 (countsL s)) ++ tagL 1 (reqsL 0 s.reqs)) ++ tagL 2 (carriersL s)) ++ tagL 3 (lotsL s)) := by
      rw [show allL s = (((([] ++ tagL 0 (countsL s)) ++ tagL 1 (reqsL 0 s.reqs)) ++ tagL 2 (carriersL s)) ++ tagL 3 (lotsL s)) by simp [allL], upTo_all (good_app (good_app (good_app (good_app good_nil (tagL_good.2 hall0)) (tagL_good.2 hall1)) (tagL_good.2 hall2)) (tagL_good.2 hall3))]
    rw [e]
    exact hj4

end Go.Proofs.YtlkijbakfoabaaaDoor.Scene

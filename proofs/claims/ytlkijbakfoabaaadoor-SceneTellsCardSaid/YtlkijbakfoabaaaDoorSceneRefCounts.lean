/-
  Contract of the answer's own look at the counts.
-/
import Derived.Test.YtlkijbakfoabaaaDoorSceneRefOwner
import Derived.Test.YtlkijbakfoabaaaDoorSceneCounts
import Derived.Deep.CutRange
namespace Go.Proofs.YtlkijbakfoabaaaDoor.Scene
open Go.RowKit Go.Proofs.YtlkijbakfoabaaaDoor.Mem
set_option linter.unusedVariables false

def faultOf (f : Int × Int × Int) : Value := .agg #[.int .i64 f.1, .int .i64 f.2.1, .int .i64 f.2.2]
theorem ret_fault {f : Int × Int × Int} {a b c : Int} (h : f = (a, b, c)) : Ending.returned (.agg #[.int .i64 a, .int .i64 b, .int .i64 c]) = .returned (faultOf f) := by subst h; rfl
theorem put3 {w : World} {g : Nat} {t : TypeId} {x0 x1 x2 y0 y1 y2 : Value} (h : At w g t #[x0, x1, x2]) : At (((w.setCell ⟨g, 0, none⟩ y0).setCell ⟨g, 1, none⟩ y1).setCell ⟨g, 2, none⟩ y2) g t #[y0, y1, y2] := by
  simpa using ((h.put 0 y0).put 1 y1).put 2 y2
theorem res_fault {fn : Func} {p : Tmp} (h : fn.results = #[.cell p 43]) {tmps : Array Value} {w : World} {g : Nat} {x0 x1 x2 : Value} (hp : tmps.getD p undef = .pointer (some ⟨g, 0, none⟩))
    (hA : At w g 43 #[x0, x1, x2]) : (results fn tmps).run Tryd.prog w = .ok (.agg #[x0, x1, x2]) w := by
  have hp' : tmps[p]?.getD undef = .pointer (some ⟨g, 0, none⟩) := by simpa using hp
  have c0 := hA.cell 0
  have c1 := hA.cell 1
  have c2 := hA.cell 2
  simp at c0 c1 c2
  simp only [results, h]
  go_simp

theorem firstBad_cons (x : Int × Int × Int) (l : List (Int × Int × Int)) : firstBad (x :: l) = if good3 x then firstBad l else x := by
  unfold firstBad
  cases h : good3 x <;> simp [List.find?, h]
theorem fb_bad {x : Int × Int × Int} {l : List (Int × Int × Int)} (h : good3 x = false) : firstBad (x :: l) = x := by rw [firstBad_cons, h]; rfl
theorem fb_good {x : Int × Int × Int} {l : List (Int × Int × Int)} (h : good3 x = true) : firstBad (x :: l) = firstBad l := by rw [firstBad_cons, h]; rfl
theorem g3_un0 (p i c : Int) (hc : c ≠ 0) : good3 (unV false c, p, i) = false := by simp [good3, unV, hc]
theorem g3_un1 (p i c : Int) : good3 (unV true c, p, i) = true := by simp [good3, unV]

def fCounts (s : Sc) : Int × Int × Int := firstBad (tagL 0 (countsL s))
theorem fCounts_lists {s : Sc} (h : listsB s = false) : fCounts s = (11, 0, 0) := by
  unfold fCounts countsL
  rw [h]
  exact fb_bad rfl
theorem fCounts_go {s : Sc} (h : listsB s = true) : fCounts s = firstBad (tagL 0 (fleetsL 0 s.cars ++ [(0, unV (termsB s) 2)])) := by
  unfold fCounts countsL
  rw [h]
  exact fb_good rfl
theorem fleet_good {k : Nat} {q : Cr} {rest : List Cr} {t : List (Int × Int)} (h : Order.btwB q.fleet.length 1 4 = true) : firstBad (tagL 0 (fleetsL k (q :: rest) ++ t)) = firstBad (tagL 0 (fleetsL (k + 1) rest ++ t)) := by
  rw [fleetsL_cons, h]
  exact fb_good rfl
theorem fleet_bad {k : Nat} {q : Cr} {rest : List Cr} {t : List (Int × Int)} (h : Order.btwB q.fleet.length 1 4 = false) : firstBad (tagL 0 (fleetsL k (q :: rest) ++ t)) = (11, 0, (k : Int)) := by
  rw [fleetsL_cons, h]
  exact fb_bad rfl
theorem terms_bad {k : Nat} {s : Sc} (h : termsB s = false) : firstBad (tagL 0 (fleetsL k [] ++ [(0, unV (termsB s) 2)])) = (2, 0, 0) := by
  rw [h]
  exact fb_bad rfl
theorem terms_good {k : Nat} {s : Sc} (h : termsB s = true) : firstBad (tagL 0 (fleetsL k [] ++ [(0, unV (termsB s) 2)])) = (0, 0, 0) := by
  rw [h]
  exact fb_good rfl
theorem btw_out {n a b : Int} (h : n < a ∨ b < n) : Order.btwB n a b = false := by
  rw [← Bool.not_eq_true, Order.btwB_iff]; omega
theorem btw_in {n a b : Int} (h1 : a ≤ n) (h2 : n ≤ b) : Order.btwB n a b = true := (Order.btwB_iff _ _ _).2 ⟨h1, h2⟩
theorem lists_out2 {s : Sc} (h : (s.cars.length : Int) < 1 ∨ 8 < (s.cars.length : Int)) : listsB s = false := (lists_no2 (btw_out h)).symm
theorem terms_out1 {s : Sc} (h : s.cm < 1 ∨ 64 < s.cm) : termsB s = false := (terms_no1 (btw_out h)).symm
theorem terms_out2 {s : Sc} (h : s.rv < 1 ∨ 64 < s.rv) : termsB s = false := (terms_no2 (btw_out h)).symm
theorem terms_out3 {s : Sc} (h : ¬ (s.sch = 0 ∨ s.sch = 1)) : termsB s = false := by
  have : Order.btwB s.sch 0 1 = false := btw_out (by omega)
  simp [termsB, this]
theorem terms_in {s : Sc} (h1 : 1 ≤ s.cm) (h2 : s.cm ≤ 64) (h3 : 1 ≤ s.rv) (h4 : s.rv ≤ 64) (h5 : s.sch = 0 ∨ s.sch = 1) : termsB s = true := by
  simp [termsB, btw_in h1 h2, btw_in h3 h4, btw_in (n := s.sch) (a := 0) (b := 1) (by omega) (by omega)]

set_option maxRecDepth 100000 in
set_option maxHeartbeats 4000000 in
theorem refCounts_any (s : Sc) (vR vC vL vD : Value) (us : List (Value × Value)) (B : Nat) (w : World) (hBw : B ≤ w.heap.size) (h : SceneAt B w vR vC vL vD us s) :
    Calls Tryd.prog 25 #[.agg #[vR, vC, vL, .int .i64 s.cm, .int .i64 s.rv, .int .i64 s.sch, vD]] w fun e w' => e = .returned (faultOf (fCounts s)) ∧ Below w.heap.size w w' := by
  have hRV := h.reqs
  have hCV := h.cars.row
  have hus := h.cars.len
  have hLV := h.lots
  have hDV := h.draws
  obtain ⟨xR, capR, rfl, hlenR, hcapR, _⟩ := hRV
  obtain ⟨xC, capC, rfl, hlenC, hcapC, _⟩ := hCV
  obtain ⟨xL, capL, rfl, hlenL, hcapL, _⟩ := hLV
  obtain ⟨xD, capD, rfl, hlenD, hcapD⟩ := hDV
  simp only [List.length_map, hus] at hlenR hlenC hlenL h ⊢
  unfold maxLen at hcapR hcapC hcapL hcapD
  have hB : Below w.heap.size w ((w.alloc (.cells #[.slice xR s.reqs.length capR, .slice xC s.cars.length capC, .slice xL s.lots.length capL, .int .i64 s.cm, .int .i64 s.rv, .int .i64 s.sch, .slice xD s.draws capD] 33)).alloc (.cells #[.int .i64 0, .int .i64 0, .int .i64 0] 43)) := ((Below.refl _ _).alloc (Nat.le_refl _) _).alloc (by simp) _
  have h1 := Lib.hid (h.keep hB hBw)
  have hP : At ((w.alloc (.cells #[.slice xR s.reqs.length capR, .slice xC s.cars.length capC, .slice xL s.lots.length capL, .int .i64 s.cm, .int .i64 s.rv, .int .i64 s.sch, .slice xD s.draws capD] 33)).alloc (.cells #[.int .i64 0, .int .i64 0, .int .i64 0] 43)) w.heap.size 33 #[.slice xR s.reqs.length capR, .slice xC s.cars.length capC, .slice xL s.lots.length capL, .int .i64 s.cm, .int .i64 s.rv, .int .i64 s.sch, .slice xD s.draws capD] := (At.new _ _ _).alloc _
  have hR : At ((w.alloc (.cells #[.slice xR s.reqs.length capR, .slice xC s.cars.length capC, .slice xL s.lots.length capL, .int .i64 s.cm, .int .i64 s.rv, .int .i64 s.sch, .slice xD s.draws capD] 33)).alloc (.cells #[.int .i64 0, .int .i64 0, .int .i64 0] 43)) (w.heap.size + 1) 43 #[.int .i64 0, .int .i64 0, .int .i64 0] := At.new_ _ _ _ (by simp)
  clear h hus
  go_enter Tryd.func25, Tryd.ntmps25
  go_upto_region 1 with fail
  generalize ((w.alloc (.cells #[.slice xR s.reqs.length capR, .slice xC s.cars.length capC, .slice xL s.lots.length capL, .int .i64 s.cm, .int .i64 s.rv, .int .i64 s.sch, .slice xD s.draws capD] 33)).alloc (.cells #[.int .i64 0, .int .i64 0, .int .i64 0] 43)) = w1 at *
  have p0 := hP.cell 0
  have p1 := hP.cell 1
  have p2 := hP.cell 2
  have p3 := hP.cell 3
  have p4 := hP.cell 4
  have p5 := hP.cell 5
  have p6 := hP.cell 6
  simp at p0 p1 p2 p3 p4 p5 p6
  clear hP
  by_cases h64 : 64 < s.reqs.length
  · have hE := Lib.hid (fCounts_lists (lists_no1 (s := s) (by omega)).symm)
    go_wp2_with fail
    refine (refFault_any _ _ _ _).mono ?_
    rintro e wf ⟨rfl, hbf⟩
    have hRf := hR.keep hbf hR.inside
    have hBf := hB.trans (hbf.mono hB.size)
    have r0 := hRf.cell 0
    have r1 := hRf.cell 1
    have r2 := hRf.cell 2
    have q0 := hRf.free 0
    have q1 := hRf.free 1
    have q2 := hRf.free 2
    simp at r0 r1 r2
    clear hR hB hbf
    go_wp2
    exact bodyPost_ret (res_fault rfl rfl (put3 hRf)) rfl ⟨ret_fault (hE.out), ((hBf.setCell (by simp) _).setCell (by simp) _).setCell (by simp) _⟩
  by_cases hc1 : s.cars.length < 1
  · have hE := Lib.hid (fCounts_lists (lists_out2 (s := s) (.inl (by omega))))
    go_wp2_with fail
    refine (refFault_any _ _ _ _).mono ?_
    rintro e wf ⟨rfl, hbf⟩
    have hRf := hR.keep hbf hR.inside
    have hBf := hB.trans (hbf.mono hB.size)
    have r0 := hRf.cell 0
    have r1 := hRf.cell 1
    have r2 := hRf.cell 2
    have q0 := hRf.free 0
    have q1 := hRf.free 1
    have q2 := hRf.free 2
    simp at r0 r1 r2
    clear hR hB hbf
    go_wp2
    exact bodyPost_ret (res_fault rfl rfl (put3 hRf)) rfl ⟨ret_fault (hE.out), ((hBf.setCell (by simp) _).setCell (by simp) _).setCell (by simp) _⟩
  by_cases hc8 : 8 < s.cars.length
  · have hE := Lib.hid (fCounts_lists (lists_out2 (s := s) (.inr (by omega))))
    go_wp2_with fail
    refine (refFault_any _ _ _ _).mono ?_
    rintro e wf ⟨rfl, hbf⟩
    have hRf := hR.keep hbf hR.inside
    have hBf := hB.trans (hbf.mono hB.size)
    have r0 := hRf.cell 0
    have r1 := hRf.cell 1
    have r2 := hRf.cell 2
    have q0 := hRf.free 0
    have q1 := hRf.free 1
    have q2 := hRf.free 2
    simp at r0 r1 r2
    clear hR hB hbf
    go_wp2
    exact bodyPost_ret (res_fault rfl rfl (put3 hRf)) rfl ⟨ret_fault (hE.out), ((hBf.setCell (by simp) _).setCell (by simp) _).setCell (by simp) _⟩
  by_cases hl16 : 16 < s.lots.length
  · have hE := Lib.hid (fCounts_lists (lists_no3 (s := s) (by omega)).symm)
    go_wp2_with fail
    refine (refFault_any _ _ _ _).mono ?_
    rintro e wf ⟨rfl, hbf⟩
    have hRf := hR.keep hbf hR.inside
    have hBf := hB.trans (hbf.mono hB.size)
    have r0 := hRf.cell 0
    have r1 := hRf.cell 1
    have r2 := hRf.cell 2
    have q0 := hRf.free 0
    have q1 := hRf.free 1
    have q2 := hRf.free 2
    simp at r0 r1 r2
    clear hR hB hbf
    go_wp2
    exact bodyPost_ret (res_fault rfl rfl (put3 hRf)) rfl ⟨ret_fault (hE.out), ((hBf.setCell (by simp) _).setCell (by simp) _).setCell (by simp) _⟩
  cases hd : ((s.draws : Int) == (s.cars.length : Int))
  · have hE := Lib.hid (fCounts_lists (lists_no4 (s := s) (by have := beq_eq_false_iff_ne.1 hd; omega)).symm)
    have hd2 : ((s.draws : Int) != (s.cars.length : Int)) = true := by rw [bne, hd]; rfl
    go_wp2_with fail
    refine (refFault_any _ _ _ _).mono ?_
    rintro e wf ⟨rfl, hbf⟩
    have hRf := hR.keep hbf hR.inside
    have hBf := hB.trans (hbf.mono hB.size)
    have r0 := hRf.cell 0
    have r1 := hRf.cell 1
    have r2 := hRf.cell 2
    have q0 := hRf.free 0
    have q1 := hRf.free 1
    have q2 := hRf.free 2
    simp at r0 r1 r2
    clear hR hB hbf
    go_wp2
    exact bodyPost_ret (res_fault rfl rfl (put3 hRf)) rfl ⟨ret_fault (hE.out), ((hBf.setCell (by simp) _).setCell (by simp) _).setCell (by simp) _⟩
  have hd2 : ((s.draws : Int) != (s.cars.length : Int)) = false := by rw [bne, hd]; rfl
  have hE := Lib.hid (fCounts_go (lists_yes (s := s) (by omega) (btw_in (by omega) (by omega)) (by omega) (by have := beq_iff_eq.1 hd; omega)).symm)
  go_wp2_with fail
  clear hd hd2 hlenD hcapD
  go_loop [3] (fun i => ∃ (k : Nat) (rest : List Cr), i = .int .i64 k ∧ s.cars.drop k = rest ∧ fCounts s = firstBad (tagL 0 (fleetsL k rest ++ [(0, unV (termsB s) 2)]))) (fun i => s.cars.length - (intOf i).toNat)
  case atStart => exact ⟨0, s.cars, rfl, rfl, hE.out⟩
  case round =>
    clear hE
    obtain ⟨k, rest, rfl, hdr, hF⟩ := hrel
    cases rest with
    | nil =>
      have hk := drop_nil hdr
      have hk2 : ¬ (k < s.cars.length) := by omega
      clear hdr hlenR hlenC hlenL hcapR hcapC hcapL
      by_cases m1 : s.cm < 1
      · have hE := Lib.hid (hF.trans (terms_bad (terms_out1 (.inl m1))))
        clear hF
        go_wp2_with fail
        refine (refFault_any _ _ _ _).mono ?_
        rintro e wf ⟨rfl, hbf⟩
        have hRf := hR.keep hbf hR.inside
        have hBf := hB.trans (hbf.mono hB.size)
        have r0 := hRf.cell 0
        have r1 := hRf.cell 1
        have r2 := hRf.cell 2
        have q0 := hRf.free 0
        have q1 := hRf.free 1
        have q2 := hRf.free 2
        simp at r0 r1 r2
        clear hR hB hbf
        go_wp2
        exact bodyPost_ret (res_fault rfl rfl (put3 hRf)) rfl ⟨ret_fault (hE.out), ((hBf.setCell (by simp) _).setCell (by simp) _).setCell (by simp) _⟩

      by_cases m2 : 64 < s.cm
      · have hE := Lib.hid (hF.trans (terms_bad (terms_out1 (.inr m2))))
        clear hF
        go_wp2_with fail
        refine (refFault_any _ _ _ _).mono ?_
        rintro e wf ⟨rfl, hbf⟩
        have hRf := hR.keep hbf hR.inside
        have hBf := hB.trans (hbf.mono hB.size)
        have r0 := hRf.cell 0
        have r1 := hRf.cell 1
        have r2 := hRf.cell 2
        have q0 := hRf.free 0
        have q1 := hRf.free 1
        have q2 := hRf.free 2
        simp at r0 r1 r2
        clear hR hB hbf
        go_wp2
        exact bodyPost_ret (res_fault rfl rfl (put3 hRf)) rfl ⟨ret_fault (hE.out), ((hBf.setCell (by simp) _).setCell (by simp) _).setCell (by simp) _⟩

      by_cases m3 : s.rv < 1
      · have hE := Lib.hid (hF.trans (terms_bad (terms_out2 (.inl m3))))
        clear hF
        go_wp2_with fail
        refine (refFault_any _ _ _ _).mono ?_
        rintro e wf ⟨rfl, hbf⟩
        have hRf := hR.keep hbf hR.inside
        have hBf := hB.trans (hbf.mono hB.size)
        have r0 := hRf.cell 0
        have r1 := hRf.cell 1
        have r2 := hRf.cell 2
        have q0 := hRf.free 0
        have q1 := hRf.free 1
        have q2 := hRf.free 2
        simp at r0 r1 r2
        clear hR hB hbf
        go_wp2
        exact bodyPost_ret (res_fault rfl rfl (put3 hRf)) rfl ⟨ret_fault (hE.out), ((hBf.setCell (by simp) _).setCell (by simp) _).setCell (by simp) _⟩

      by_cases m4 : 64 < s.rv
      · have hE := Lib.hid (hF.trans (terms_bad (terms_out2 (.inr m4))))
        clear hF
        go_wp2_with fail
        refine (refFault_any _ _ _ _).mono ?_
        rintro e wf ⟨rfl, hbf⟩
        have hRf := hR.keep hbf hR.inside
        have hBf := hB.trans (hbf.mono hB.size)
        have r0 := hRf.cell 0
        have r1 := hRf.cell 1
        have r2 := hRf.cell 2
        have q0 := hRf.free 0
        have q1 := hRf.free 1
        have q2 := hRf.free 2
        simp at r0 r1 r2
        clear hR hB hbf
        go_wp2
        exact bodyPost_ret (res_fault rfl rfl (put3 hRf)) rfl ⟨ret_fault (hE.out), ((hBf.setCell (by simp) _).setCell (by simp) _).setCell (by simp) _⟩

      cases m5 : (s.sch == 0)
      · have m5' : (s.sch != 0) = true := by rw [bne, m5]; rfl
        cases m6 : (s.sch == 1)
        · have m6' : (s.sch != 1) = true := by rw [bne, m6]; rfl
          have hE := Lib.hid (hF.trans (terms_bad (terms_out3 (by have := beq_eq_false_iff_ne.1 m5; have := beq_eq_false_iff_ne.1 m6; omega))))
          clear hF
          go_wp2_with fail
          refine (refFault_any _ _ _ _).mono ?_
          rintro e wf ⟨rfl, hbf⟩
          have hRf := hR.keep hbf hR.inside
          have hBf := hB.trans (hbf.mono hB.size)
          have r0 := hRf.cell 0
          have r1 := hRf.cell 1
          have r2 := hRf.cell 2
          have q0 := hRf.free 0
          have q1 := hRf.free 1
          have q2 := hRf.free 2
          simp at r0 r1 r2
          clear hR hB hbf
          go_wp2
          exact bodyPost_ret (res_fault rfl rfl (put3 hRf)) rfl ⟨ret_fault (hE.out), ((hBf.setCell (by simp) _).setCell (by simp) _).setCell (by simp) _⟩

        · have m6' : (s.sch != 1) = false := by rw [bne, m6]; rfl
          have hE := Lib.hid (hF.trans (terms_good (terms_in (by omega) (by omega) (by omega) (by omega) (.inr (beq_iff_eq.1 m6)))))
          clear hF
          have q0 := hR.free 0
          have q1 := hR.free 1
          have q2 := hR.free 2
          have r0 := hR.cell 0
          have r1 := hR.cell 1
          have r2 := hR.cell 2
          simp at r0 r1 r2
          go_wp2
          exact bodyPost_ret (res_fault rfl rfl (put3 hR)) rfl ⟨ret_fault (hE.out), ((hB.setCell (by simp) _).setCell (by simp) _).setCell (by simp) _⟩

      · have m5' : (s.sch != 0) = false := by rw [bne, m5]; rfl
        have hE := Lib.hid (hF.trans (terms_good (terms_in (by omega) (by omega) (by omega) (by omega) (.inl (beq_iff_eq.1 m5)))))
        clear hF
        have q0 := hR.free 0
        have q1 := hR.free 1
        have q2 := hR.free 2
        have r0 := hR.cell 0
        have r1 := hR.cell 1
        have r2 := hR.cell 2
        simp at r0 r1 r2
        go_wp2
        exact bodyPost_ret (res_fault rfl rfl (put3 hR)) rfl ⟨ret_fault (hE.out), ((hB.setCell (by simp) _).setCell (by simp) _).setCell (by simp) _⟩

    | cons q rest =>
      obtain ⟨hlt, hq, hd2⟩ := drop_cons hdr
      obtain ⟨xF, capF, xO, capO, huk, hlenF, hcapF, _, _, hk3⟩ := h1.out.cars.get hq
      obtain ⟨g, o, rfl, hgB, hc⟩ := RowB.row h1.out.cars.row hk3
      unfold maxLen at hcapF
      have c0 := hc 0 _ rfl
      clear hc hk3 huk
      simp at c0
      have hd3 := Lib.hid hd2
      clear hdr hd2 hq
      by_cases f1 : q.fleet.length < 1
      · have hE := Lib.hid (hF.trans (fleet_bad (btw_out (.inl (by omega)))))
        clear hF
        go_wp2_with fail
        refine (refFault_any _ _ _ _).mono ?_
        rintro e wf ⟨rfl, hbf⟩
        have hRf := hR.keep hbf hR.inside
        have hBf := hB.trans (hbf.mono hB.size)
        have r0 := hRf.cell 0
        have r1 := hRf.cell 1
        have r2 := hRf.cell 2
        have q0 := hRf.free 0
        have q1 := hRf.free 1
        have q2 := hRf.free 2
        simp at r0 r1 r2
        clear hR hB hbf
        go_wp2
        exact bodyPost_ret (res_fault rfl rfl (put3 hRf)) rfl ⟨ret_fault (hE.out), ((hBf.setCell (by simp) _).setCell (by simp) _).setCell (by simp) _⟩

      by_cases f2 : 4 < q.fleet.length
      · have hE := Lib.hid (hF.trans (fleet_bad (btw_out (.inr (by omega)))))
        clear hF
        go_wp2_with fail
        refine (refFault_any _ _ _ _).mono ?_
        rintro e wf ⟨rfl, hbf⟩
        have hRf := hR.keep hbf hR.inside
        have hBf := hB.trans (hbf.mono hB.size)
        have r0 := hRf.cell 0
        have r1 := hRf.cell 1
        have r2 := hRf.cell 2
        have q0 := hRf.free 0
        have q1 := hRf.free 1
        have q2 := hRf.free 2
        simp at r0 r1 r2
        clear hR hB hbf
        go_wp2
        exact bodyPost_ret (res_fault rfl rfl (put3 hRf)) rfl ⟨ret_fault (hE.out), ((hBf.setCell (by simp) _).setCell (by simp) _).setCell (by simp) _⟩

      have hE := Lib.hid (hF.trans (fleet_good (btw_in (by omega) (by omega))))
      clear hF
      go_wp2
      go_round
      case rel => exact ⟨k + 1, rest, by go_num, hd3.out, hE.out⟩
      case measure => simp [intOf]; omega

end Go.Proofs.YtlkijbakfoabaaaDoor.Scene

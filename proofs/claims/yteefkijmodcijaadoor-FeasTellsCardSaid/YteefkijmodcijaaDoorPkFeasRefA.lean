import Derived.Test.YteefkijmodcijaaDoorPkWindowAsk
import Derived.Test.YteefkijmodcijaaDoorPkPlaceDist

/-
  The document's answers: how many such stops there are, whether one may stand behind others, and what is on board behind a row.
-/
namespace Go.Proofs.YteefkijmodcijaaDoor.Feas
open Go.RowKit Go.Sort Go.Proofs.YteefkijmodcijaaDoor.Mem Go.Proofs.YteefkijmodcijaaDoor.Route Go.Proofs.YteefkijmodcijaaDoor.When Go.Proofs.YteefkijmodcijaaDoor.Load Go.Proofs.YteefkijmodcijaaDoor.Place
set_option linter.unusedVariables false

/-- May a stop stand behind these, by how many such stops there are? -/
def standB (t : List Rq) (pre : List (Int × Int)) (s : Int × Int) : Bool := inT t s.1 && (decide (s.2 = 0) || decide (s.2 = 1)) && (decide ((cnt (s.1, 0) pre : Int) = s.2) && decide ((cnt (s.1, 1) pre : Int) = 0))
/-- Each of these may stand behind those ahead of it. -/
def Std (t : List Rq) (pre : List (Int × Int)) : Prop := ∀ p s q, pre = p ++ s :: q → stB t p s = true
theorem Std.nil (t : List Rq) : Std t [] := fun p s q e => by cases p <;> cases e
theorem Std.snoc {t : List Rq} {pre : List (Int × Int)} {s : Int × Int} (h : Std t pre) (hs : stB t pre s = true) : Std t (pre ++ [s]) := by
  intro p x q e
  rcases List.eq_nil_or_concat q with rfl | ⟨q', y, rfl⟩
  · have e2 := List.append_inj' e rfl
    rw [← e2.1, ← (List.cons.inj e2.2).1]
    exact hs
  · rw [List.concat_eq_append, ← List.cons_append, ← List.append_assoc] at e
    exact h p x q' (List.append_inj' e rfl).1
theorem Std.init {t : List Rq} {pre : List (Int × Int)} {s : Int × Int} (h : Std t (pre ++ [s])) : Std t pre ∧ stB t pre s = true :=
  ⟨fun p x q e => h p x (q ++ [s]) (by rw [e]; simp), h pre s [] rfl⟩
theorem cnt_snoc (a s : Int × Int) (l : List (Int × Int)) : (cnt a (l ++ [s]) : Int) = cnt a l + (if s = a then 1 else 0) := by
  rw [cnt_append]
  by_cases h : s = a
  · subst h
    rw [cnt_cons_same, if_pos rfl]
    simp [cnt]
  · rw [cnt_cons_other h, if_neg h]
    simp [cnt]
theorem Std.counts {t : List Rq} {pre : List (Int × Int)} (h : Std t pre) (r : Int) : nR r pre ≤ 2 ∧ (cnt (r, 0) pre : Int) = (if 1 ≤ nR r pre then 1 else 0) ∧ (cnt (r, 1) pre : Int) = (if 2 ≤ nR r pre then 1 else 0) := by
  induction pre using snoc_ind with
  | h0 => simp [nR, ofR, cnt]
  | h1 l s ih =>
    obtain ⟨h1, h2⟩ := h.init
    obtain ⟨i1, i2, i3⟩ := ih h1
    obtain ⟨_, h3, h4⟩ := stB_iff.1 h2
    have hn := nR_nonneg r l
    obtain ⟨s1, s2⟩ := s
    simp only at h3 h4
    rw [nR_snoc, cnt_snoc, cnt_snoc, i2, i3]
    by_cases hr : s1 = r
    · subst hr
      simp only [if_true, Prod.mk.injEq, true_and]
      rcases h3 with rfl | rfl
      · rw [h4]
        decide
      · rw [h4]
        decide
    · simp only [hr, if_false, Prod.mk.injEq, false_and]
      refine ⟨by omega, ?_, ?_⟩ <;> simp
theorem stand_eq {t : List Rq} {pre : List (Int × Int)} (h : Std t pre) (s : Int × Int) : standB t pre s = stB t pre s := by
  obtain ⟨c1, c2, c3⟩ := h.counts s.1
  have hn := nR_nonneg s.1 pre
  unfold standB stB
  rw [c2, c3]
  by_cases h0 : s.2 = 0
  · rw [h0]
    congr 1
    rw [Bool.eq_iff_iff]
    simp only [Bool.and_eq_true, decide_eq_true_eq]
    split <;> split <;> omega
  · by_cases h1 : s.2 = 1
    · rw [h1]
      congr 1
      rw [Bool.eq_iff_iff]
      simp only [Bool.and_eq_true, decide_eq_true_eq]
      split <;> split <;> omega
    · simp [h0, h1]

set_option maxRecDepth 100000 in
set_option maxHeartbeats 1000000 in
theorem Many_any (v : Value) (l : List (Int × Int)) (a b : Int) (hl : l.length ≤ 140737488351232) (w : World) (h : Row w.heap.size w v l) :
    Calls Tryd.prog 92 #[v, .agg #[.int .i64 a, .int .i64 b]] w fun e w' => e = .returned (.int .i64 (cnt (a, b) l)) ∧ Below w.heap.size w w' := by
  obtain ⟨x, N, cap, rfl, hN', h0', hc1, hc2⟩ := h.opened
  have hb0 : Below w.heap.size w (w.alloc (.cells #[.int .i64 a, .int .i64 b] 65)) := (Below.refl _ _).alloc (Nat.le_refl _) _
  have hA0 : At (w.alloc (.cells #[.int .i64 a, .int .i64 b] 65)) w.heap.size 65 #[.int .i64 a, .int .i64 b] := At.new w _ _
  have h' := Lib.hid h
  rw [hN'.out] at hl
  clear h
  go_enter Tryd.func92, Tryd.ntmps92
  go_wp2
  go_loopw [5, 6] (fun n i wr => ∃ k c : Nat, k ≤ N ∧ i = .int .i64 k ∧ n = .int .i64 c ∧ c = cnt (a, b) (l.take k) ∧ Below w.heap.size w wr ∧ At wr w.heap.size 65 #[.int .i64 a, .int .i64 b])
    (fun _ i _ => N - (intOf i).toNat)
  case atStart => exact ⟨0, 0, by omega, rfl, rfl, by simp [cnt], hb0, hA0⟩
  case round =>
    obtain ⟨k, c, hk, rfl, rfl, hcc, hbw, hA⟩ := hrel
    have hcl : c ≤ k := by
      have h1 := cnt_le (a, b) (l.take k)
      rw [List.length_take] at h1
      omega
    have hcc' := Lib.hid hcc
    clear hb0 hA0 hcc
    by_cases hlt : k < N
    · obtain ⟨s, hs, _⟩ := drop_get (l := l) (k := k) (by rw [hN'.out]; exact hlt)
      obtain ⟨s1, s2⟩ := s
      have hst := Route.take_get hs
      obtain ⟨g, o, rfl, hg, e1, e2⟩ := Row.stop h'.out hs
      have e1 := (hbw.cell (p := ⟨g, o + k * 2, none⟩) hg).trans e1
      have e2 := (hbw.cell (p := ⟨g, o + k * 2 + 1, none⟩) hg).trans e2
      have a0 := hA.cell 0
      have a1 := hA.cell 1
      simp at a0 a1 e1 e2
      have hyes := Lib.hid (show s1 = a → s2 = b → cnt (a, b) (l.take (k + 1)) = c + 1 by rintro rfl rfl; rw [hst, cnt_append, cnt_cons_same, ← hcc'.out]; rfl)
      have hno := Lib.hid (show ((s1, s2) : Int × Int) ≠ (a, b) → cnt (a, b) (l.take (k + 1)) = c by intro hne; rw [hst, cnt_append, cnt_cons_other hne, ← hcc'.out]; rfl)
      clear hs hst
      cases h1 : (s1 == a)
      · go_wp2
        go_quiet (fail)
        go_wp2
        go_roundw
        case rel => exact ⟨k + 1, c, by omega, by go_num, rfl, (hno.out (by intro e; cases e; simp at h1)).symm, below_drewN hbw nq, hA.drewN nq⟩
        case measure => simp [intOf]; omega
      · cases h2 : (s2 == b)
        · go_wp2
          go_quiet (fail)
          go_wp2
          go_roundw
          case rel => exact ⟨k + 1, c, by omega, by go_num, rfl, (hno.out (by intro e; cases e; simp at h2)).symm, below_drewN hbw nq, hA.drewN nq⟩
          case measure => simp [intOf]; omega
        · go_wp2
          go_quiet (fail)
          go_wp2
          go_roundw
          case rel => exact ⟨k + 1, c + 1, by omega, by go_num, by go_num, (hyes.out (by simpa using h1) (by simpa using h2)).symm, below_drewN hbw nq, hA.drewN nq⟩
          case measure => simp [intOf]; omega
    · obtain rfl : k = N := by omega
      have he : c = cnt (a, b) l := by rw [hcc'.out, ← hN'.out, List.take_length]
      have he' := Lib.hid he
      clear he
      go_wp2
      go_ret
      exact ⟨Route.ret_int (by rw [he'.out]), hbw⟩


theorem stand_out {t : List Rq} {pre : List (Int × Int)} {s : Int × Int} (h : inT t s.1 = false) : standB t pre s = false := by unfold standB; rw [h]; rfl
theorem stand_odd {t : List Rq} {pre : List (Int × Int)} {s : Int × Int} (h : s.2 ≠ 0) (h1 : s.2 ≠ 1) : standB t pre s = false := by unfold standB; simp [h, h1]
theorem stand_in {t : List Rq} {pre : List (Int × Int)} {s : Int × Int} (h : inT t s.1 = true) (h1 : s.2 = 0 ∨ s.2 = 1) : standB t pre s = (decide ((cnt (s.1, 0) pre : Int) = s.2) && decide ((cnt (s.1, 1) pre : Int) = 0)) := by
  unfold standB
  rw [h]
  rcases h1 with h1 | h1 <;> simp [h1]

set_option maxRecDepth 100000 in
set_option maxHeartbeats 2000000 in
theorem Stands_any (vl vt : Value) (l : List (Int × Int)) (t : List Rq) (s1 s2 : Int) (hl : l.length ≤ 1000000) (w : World) (hL : Row w.heap.size w vl l) (hT : Rqs w.heap.size w vt t) :
    Calls Tryd.prog 78 #[vl, .agg #[.int .i64 s1, .int .i64 s2], vt] w fun e w' => e = .returned (.bool (standB t l (s1, s2))) ∧ Below w.heap.size w w' := by
  obtain ⟨xt, Nt, capt, rfl, hNt, htc1, htc2, ht0⟩ := hT.opened
  obtain ⟨xl, N, cap, rfl, hN', h0', hc1, hc2⟩ := hL.opened
  have hNt' := Lib.hid hNt
  have hL' := Lib.hid hL
  have hlN : Hid (l.length ≤ 1000000) := Lib.hid hl
  unfold maxLen at htc2 hc2
  clear hT hNt ht0 hL hl h0'
  obtain ⟨w0, hw0⟩ : ∃ w0, w.alloc (.cells #[.int .i64 s1, .int .i64 s2] 65) = w0 := ⟨_, rfl⟩
  obtain ⟨q, hq⟩ : ∃ q, w.heap.size = q := ⟨_, rfl⟩
  have hS : At w0 q 65 #[.int .i64 s1, .int .i64 s2] := by rw [← hw0]; exact At.new_ _ _ _ hq.symm
  have hb0 : Below w.heap.size w w0 := by rw [← hw0]; exact (Below.refl _ _).alloc (Nat.le_refl _) _
  have hq' := Lib.hid hq
  have hw0' := Lib.hid hw0
  have c0 := hS.cell 0
  have c1 := hS.cell 1
  simp at c0 c1
  clear hw0 hq
  by_cases hin : inT t s1 = true
  case neg =>
    have hF := Lib.hid (stand_out (pre := l) (s := (s1, s2)) (Bool.eq_false_iff.2 hin))
    have hor : s1 < 0 ∨ (¬ s1 < 0 ∧ (Nt : Int) ≤ s1) := by
      have := hNt'.out
      simp only [inT, Bool.and_eq_true, decide_eq_true_eq] at hin
      omega
    clear hin
    rcases hor with h1 | ⟨h1, h2⟩
    · go_enter Tryd.func78, Tryd.ntmps78
      go_upto_region 1 with fail
      (try simp only [hq'.out])
      rw [hw0'.out]
      go_wp2
      go_ret
      exact ⟨Route.ret_bool hF.out.symm, hb0⟩
    · go_enter Tryd.func78, Tryd.ntmps78
      go_upto_region 1 with fail
      (try simp only [hq'.out])
      rw [hw0'.out]
      go_wp2
      go_ret
      exact ⟨Route.ret_bool hF.out.symm, hb0⟩
  case pos =>
  have hi2 : ¬ s1 < 0 ∧ ¬ (Nt : Int) ≤ s1 := by
    have := hNt'.out
    simp only [inT, Bool.and_eq_true, decide_eq_true_eq] at hin
    omega
  obtain ⟨h1, h2⟩ := hi2
  by_cases hk : s2 = 0 ∨ s2 = 1
  case neg =>
    have hF := Lib.hid (stand_odd (t := t) (pre := l) (s := (s1, s2)) (fun e => hk (.inl e)) (fun e => hk (.inr e)))
    have h3 : (s2 == 0) = false := by simp; exact fun e => hk (.inl e)
    have h4 : (s2 == 1) = false := by simp; exact fun e => hk (.inr e)
    have h5 : (s2 != 0) = true := by simp; exact fun e => hk (.inl e)
    have h6 : (s2 != 1) = true := by simp; exact fun e => hk (.inr e)
    clear hin hk
    go_enter Tryd.func78, Tryd.ntmps78
    go_upto_region 1 with fail
    (try simp only [hq'.out])
    rw [hw0'.out]
    go_wp2
    go_ret
    exact ⟨Route.ret_bool hF.out.symm, hb0⟩
  case pos =>
  have hF := Lib.hid (stand_in (pre := l) (s := (s1, s2)) hin hk)
  have hcN := fun (b : Int) d os => Calls.regrown_of (Many_any _ l s1 b (by have := hlN.out; omega) (grow (redrawn w0 d) os) ((hL'.out.keep (hb0.trans ((below_regrown w0 d os).mono hb0.size)) (Nat.le_refl _)).more (Nat.le_trans hb0.size (below_regrown w0 d os).size)))
  have hc0 := hcN 0
  have hc1' := hcN 1
  obtain ⟨C0, hC0⟩ : ∃ C, cnt (s1, 0) l = C := ⟨_, rfl⟩
  obtain ⟨C1, hC1⟩ : ∃ C, cnt (s1, 1) l = C := ⟨_, rfl⟩
  rw [hC0] at hc0
  rw [hC1] at hc1'
  simp only [hC0, hC1] at hF
  clear hC0 hC1 hcN hin
  have k0 := cell_regrown c0
  have k1 := cell_regrown c1
  have hsz := hb0.size
  rcases hk with rfl | rfl
  · go_enter Tryd.func78, Tryd.ntmps78
    go_upto_region 1 with fail
    (try simp only [hq'.out])
    rw [hw0'.out]
    go_upto_region 3 with fail
    refine wp_region_quiet_below (by kernel_rfl) (by kernel_rfl) ?_
    repeat (go_big_quiet_step (first | with_reducible exact hc0 _ _ | with_reducible exact hc1' _ _))
    refine wpQuiet_nil ?_
    intro _ hw'
    obtain ⟨⟨dq, osq⟩, hw''⟩ := hw'
    subst hw''
    have hB := hb0.trans ((below_regrown w0 dq osq).mono hsz)
    have hS5 := hS.keep (below_regrown w0 dq osq) hS.inside
    have c0 := hS5.cell 0
    have c1 := hS5.cell 1
    simp at c0 c1
    clear hS5 k0 k1 hc0 hc1'
    have hFo := hF.out
    clear hF
    generalize grow (redrawn w0 dq) osq = w5 at *
    cases e0 : ((C0 : Int) == 0)
    · have hF : Hid (standB t l (s1, 0) = false) := Lib.hid (by rw [hFo, decide_eq_false (by simpa using e0), Bool.false_and])
      clear hFo
      go_wp2
      go_ret
      exact ⟨Route.ret_bool hF.out.symm, hB⟩
    · cases e1 : ((C1 : Int) == 0)
      · have hF : Hid (standB t l (s1, 0) = false) := Lib.hid (by rw [hFo, decide_eq_false (p := (C1 : Int) = 0) (by simpa using e1), Bool.and_false])
        clear hFo
        go_wp2
        go_ret
        exact ⟨Route.ret_bool hF.out.symm, hB⟩
      · have hF : Hid (standB t l (s1, 0) = true) := Lib.hid (by rw [hFo, decide_eq_true (p := (C1 : Int) = 0) (by simpa using e1), decide_eq_true (by simpa using e0)]; rfl)
        clear hFo
        go_wp2
        go_ret
        exact ⟨Route.ret_bool hF.out.symm, hB⟩
  · go_enter Tryd.func78, Tryd.ntmps78
    go_upto_region 1 with fail
    (try simp only [hq'.out])
    rw [hw0'.out]
    go_upto_region 3 with fail
    refine wp_region_quiet_below (by kernel_rfl) (by kernel_rfl) ?_
    repeat (go_big_quiet_step (first | with_reducible exact hc0 _ _ | with_reducible exact hc1' _ _))
    refine wpQuiet_nil ?_
    intro _ hw'
    obtain ⟨⟨dq, osq⟩, hw''⟩ := hw'
    subst hw''
    have hB := hb0.trans ((below_regrown w0 dq osq).mono hsz)
    have hS5 := hS.keep (below_regrown w0 dq osq) hS.inside
    have c0 := hS5.cell 0
    have c1 := hS5.cell 1
    simp at c0 c1
    clear hS5 k0 k1 hc0 hc1'
    have hFo := hF.out
    clear hF
    generalize grow (redrawn w0 dq) osq = w5 at *
    cases e0 : ((C0 : Int) == 1)
    · have hF : Hid (standB t l (s1, 1) = false) := Lib.hid (by rw [hFo, decide_eq_false (by simpa using e0), Bool.false_and])
      clear hFo
      go_wp2
      go_ret
      exact ⟨Route.ret_bool hF.out.symm, hB⟩
    · cases e1 : ((C1 : Int) == 0)
      · have hF : Hid (standB t l (s1, 1) = false) := Lib.hid (by rw [hFo, decide_eq_false (p := (C1 : Int) = 0) (by simpa using e1), Bool.and_false])
        clear hFo
        go_wp2
        go_ret
        exact ⟨Route.ret_bool hF.out.symm, hB⟩
      · have hF : Hid (standB t l (s1, 1) = true) := Lib.hid (by rw [hFo, decide_eq_true (p := (C1 : Int) = 0) (by simpa using e1), decide_eq_true (by simpa using e0)]; rfl)
        clear hFo
        go_wp2
        go_ret
        exact ⟨Route.ret_bool hF.out.symm, hB⟩

end Go.Proofs.YteefkijmodcijaaDoor.Feas

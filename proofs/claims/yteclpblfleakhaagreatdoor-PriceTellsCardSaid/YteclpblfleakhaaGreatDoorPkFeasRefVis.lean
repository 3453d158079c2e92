import Derived.Test.YteclpblfleakhaaGreatDoorPkFeasPass

namespace Go.Proofs.YteclpblfleakhaaGreatDoor.Feas
open Go.RowKit Go.Sort Go.Proofs.YteclpblfleakhaaGreatDoor.Mem Go.Proofs.YteclpblfleakhaaGreatDoor.Route Go.Proofs.YteclpblfleakhaaGreatDoor.When Go.Proofs.YteclpblfleakhaaGreatDoor.Load Go.Proofs.YteclpblfleakhaaGreatDoor.Place
set_option linter.unusedVariables false
theorem res_win {fn : Func} {p : Tmp} (h : fn.results = #[.cell p 41]) {tmps : Array Value} {w : World} {g : Nat} {x y : Value} (hp : tmps.getD p undef = .pointer (some ⟨g, 0, none⟩))
 (c0 : w.cell? ⟨g, 0, none⟩ = some x) (c1 : w.cell? ⟨g, 1, none⟩ = some y) : (results fn tmps).run Tryz.prog w = .ok (.agg #[x, y]) w := by
 have hp' : tmps[p]?.getD undef = .pointer (some ⟨g, 0, none⟩) := by simpa using hp
 simp only [results, h]
 go_simp
set_option maxHeartbeats 1000000 in
theorem rPlace_any (s1 s2 : Int) (vt : Value) (t : List Rq) (x : Vi) (w : World) (hv : visO t (s1, s2) = some x) (hT : Rqs w.heap.size w vt t) :
 Calls Tryz.prog 90 #[.agg #[.int .i64 s1, .int .i64 s2], vt] w fun e w' => e = .returned (.agg #[.int .i64 x.px, .int .i64 x.py]) ∧ Below w.heap.size w w' := by
 obtain ⟨xt, N, cap, rfl, hN, hc1, hc2, hx0⟩ := hT.opened
 obtain ⟨q, hq, h0, h1, -, hk⟩ := visO_some hv
 simp only at hq h0 h1 hk
 obtain ⟨k, rfl⟩ : ∃ k : Nat, s1 = k := ⟨s1.toNat, by omega⟩
 simp only [Int.toNat_natCast] at hq
 have hk1 : k < N := by omega
 have hk2 : ((k : Int) < N) := by omega
 obtain ⟨b, o, rfl, hb, c0, c1, c2, c3, c4, c5, c6, c7, c8, c9⟩ := hT.at hq
 clear hN hx0 hv hT hq
 rcases hk with ⟨rfl, rfl⟩ | ⟨rfl, rfl⟩
 · go_enter Tryz.func90, Tryz.ntmps90
   go_wp2
   refine bodyPost_ret (res_place rfl rfl (x := .int .i64 q.fx) (y := .int .i64 q.fy) (by go_simp) (by go_simp)) rfl ?_
   exact ⟨rfl, by repeat (first | exact Below.refl _ _ | refine Below.alloc ?_ (by simp <;> omega) _ | refine Below.setCell ?_ (by simp <;> omega) _)⟩
 · go_enter Tryz.func90, Tryz.ntmps90
   go_wp2
   refine bodyPost_ret (res_place rfl rfl (x := .int .i64 q.tx) (y := .int .i64 q.ty) (by go_simp) (by go_simp)) rfl ?_
   exact ⟨rfl, by repeat (first | exact Below.refl _ _ | refine Below.alloc ?_ (by simp <;> omega) _ | refine Below.setCell ?_ (by simp <;> omega) _)⟩
set_option maxHeartbeats 1000000 in
theorem rWindow_any (s1 s2 : Int) (vt : Value) (t : List Rq) (x : Vi) (w : World) (hv : visO t (s1, s2) = some x) (hT : Rqs w.heap.size w vt t) :
 Calls Tryz.prog 89 #[.agg #[.int .i64 s1, .int .i64 s2], vt] w fun e w' => e = .returned (.agg #[.int .i64 x.we, .int .i64 x.wl]) ∧ Below w.heap.size w w' := by
 obtain ⟨xt, N, cap, rfl, hN, hc1, hc2, hx0⟩ := hT.opened
 obtain ⟨q, hq, h0, h1, -, hk⟩ := visO_some hv
 simp only at hq h0 h1 hk
 obtain ⟨k, rfl⟩ : ∃ k : Nat, s1 = k := ⟨s1.toNat, by omega⟩
 simp only [Int.toNat_natCast] at hq
 have hk1 : k < N := by omega
 have hk2 : ((k : Int) < N) := by omega
 obtain ⟨b, o, rfl, hb, c0, c1, c2, c3, c4, c5, c6, c7, c8, c9⟩ := hT.at hq
 clear hN hx0 hv hT hq
 rcases hk with ⟨rfl, rfl⟩ | ⟨rfl, rfl⟩
 · go_enter Tryz.func89, Tryz.ntmps89
   go_wp2
   refine bodyPost_ret (res_win rfl rfl (x := .int .i64 q.pe) (y := .int .i64 q.pl) (by go_simp) (by go_simp)) rfl ?_
   exact ⟨rfl, by repeat (first | exact Below.refl _ _ | refine Below.alloc ?_ (by simp <;> omega) _ | refine Below.setCell ?_ (by simp <;> omega) _)⟩
 · go_enter Tryz.func89, Tryz.ntmps89
   go_wp2
   refine bodyPost_ret (res_win rfl rfl (x := .int .i64 q.de) (y := .int .i64 q.dl) (by go_simp) (by go_simp)) rfl ?_
   exact ⟨rfl, by repeat (first | exact Below.refl _ _ | refine Below.alloc ?_ (by simp <;> omega) _ | refine Below.setCell ?_ (by simp <;> omega) _)⟩
def standB (t : List Rq) (pre : List (Int × Int)) (s : Int × Int) : Bool := inT t s.1 && (decide (s.2 = 0) || decide (s.2 = 1)) && (decide ((cnt (s.1, 0) pre : Int) = s.2) && decide ((cnt (s.1, 1) pre : Int) = 0))
def Std (t : List Rq) (pre : List (Int × Int)) : Prop := ∀ p s q, pre = p ++ s :: q → stB t p s = true
theorem Std.nil (t : List Rq) : Std t [] := fun p s q e => by cases p <;> cases e
theorem Std.snoc {t : List Rq} {pre : List (Int × Int)} {s : Int × Int} (h : Std t pre) (hs : stB t pre s = true) : Std t (pre ++ [s]) := by
 intro p x q e
 rcases List.eq_nil_or_concat q with rfl | ⟨q', y, rfl⟩
 · have e2 := List.append_inj' e rfl
   rw [← e2.1, ← (List.cons.inj e2.2).1]
   exact hs
 · rw [List.concat_eq_append, ← List.cons_append, ← List.append_assoc] at e
   exact h p x q' (List.append_inj' e rfl).1
theorem Std.init {t : List Rq} {pre : List (Int × Int)} {s : Int × Int} (h : Std t (pre ++ [s])) : Std t pre ∧ stB t pre s = true :=
 ⟨fun p x q e => h p x (q ++ [s]) (by rw [e]; simp), h pre s [] rfl⟩
theorem cnt_snoc (a s : Int × Int) (l : List (Int × Int)) : (cnt a (l ++ [s]) : Int) = cnt a l + (if s = a then 1 else 0) := by
 rw [cnt_append]
 by_cases h : s = a
 · subst h
   rw [cnt_cons_same, if_pos rfl]
   simp [cnt]
 · rw [cnt_cons_other h, if_neg h]
   simp [cnt]
theorem Std.counts {t : List Rq} {pre : List (Int × Int)} (h : Std t pre) (r : Int) : nR r pre ≤ 2 ∧ (cnt (r, 0) pre : Int) = (if 1 ≤ nR r pre then 1 else 0) ∧ (cnt (r, 1) pre : Int) = (if 2 ≤ nR r pre then 1 else 0) := by
 induction pre using snoc_ind with
 | h0 => simp [nR, ofR, cnt]
 | h1 l s ih =>
  obtain ⟨h1, h2⟩ := h.init
  obtain ⟨i1, i2, i3⟩ := ih h1
  obtain ⟨_, h3, h4⟩ := stB_iff.1 h2
  have hn := nR_nonneg r l
  obtain ⟨s1, s2⟩ := s
  simp only at h3 h4
  rw [nR_snoc, cnt_snoc, cnt_snoc, i2, i3]
  by_cases hr : s1 = r
  · subst hr
    simp only [if_true, Prod.mk.injEq, true_and]
    rcases h3 with rfl | rfl
    · rw [h4]
      decide
    · rw [h4]
      decide
  · simp only [hr, if_false, Prod.mk.injEq, false_and]
    refine ⟨by omega, ?_, ?_⟩ <;> simp
theorem stand_eq {t : List Rq} {pre : List (Int × Int)} (h : Std t pre) (s : Int × Int) : standB t pre s = stB t pre s := by
 obtain ⟨c1, c2, c3⟩ := h.counts s.1
 have hn := nR_nonneg s.1 pre
 unfold standB stB
 rw [c2, c3]
 by_cases h0 : s.2 = 0
 · rw [h0]
   congr 1
   rw [Bool.eq_iff_iff]
   simp only [Bool.and_eq_true, decide_eq_true_eq]
   split <;> split <;> omega
 · by_cases h1 : s.2 = 1
   · rw [h1]
     congr 1
     rw [Bool.eq_iff_iff]
     simp only [Bool.and_eq_true, decide_eq_true_eq]
     split <;> split <;> omega
   · simp [h0, h1]
set_option maxRecDepth 100000 in
set_option maxHeartbeats 1000000 in
theorem Many_any (v : Value) (l : List (Int × Int)) (a b : Int) (hl : l.length ≤ 140737488351232) (w : World) (h : Row w.heap.size w v l) :
 Calls Tryz.prog 103 #[v, .agg #[.int .i64 a, .int .i64 b]] w fun e w' => e = .returned (.int .i64 (cnt (a, b) l)) ∧ Below w.heap.size w w' := by
 obtain ⟨x, N, cap, rfl, hN', h0', hc1, hc2⟩ := h.opened
 have hb0 : Below w.heap.size w (w.alloc (.cells #[.int .i64 a, .int .i64 b] 82)) := (Below.refl _ _).alloc (Nat.le_refl _) _
 have hA0 : At (w.alloc (.cells #[.int .i64 a, .int .i64 b] 82)) w.heap.size 82 #[.int .i64 a, .int .i64 b] := At.new w _ _
 have h' := Lib.hid h
 rw [hN'.out] at hl
 clear h
 go_enter Tryz.func103, Tryz.ntmps103
 go_wp2
 go_loopw [5, 6] (fun n i wr => ∃ k c : Nat, k ≤ N ∧ i = .int .i64 k ∧ n = .int .i64 c ∧ c = cnt (a, b) (l.take k) ∧ Below w.heap.size w wr ∧ At wr w.heap.size 82 #[.int .i64 a, .int .i64 b])
  (fun _ i _ => N - (intOf i).toNat)
 case atStart => exact ⟨0, 0, by omega, rfl, rfl, by simp [cnt], hb0, hA0⟩
 case round =>
  obtain ⟨k, c, hk, rfl, rfl, hcc, hbw, hA⟩ := hrel
  have hcl : c ≤ k := by
   have h1 := cnt_le (a, b) (l.take k)
   rw [List.length_take] at h1
   omega
  have hcc' := Lib.hid hcc
  clear hb0 hA0 hcc
  by_cases hlt : k < N
  · obtain ⟨s, hs, _⟩ := drop_get (l := l) (k := k) (by rw [hN'.out]; exact hlt)
    obtain ⟨s1, s2⟩ := s
    have hst := Route.take_get hs
    obtain ⟨g, o, rfl, hg, e1, e2⟩ := Row.stop h'.out hs
    have e1 := (hbw.cell (p := ⟨g, o + k * 2, none⟩) hg).trans e1
    have e2 := (hbw.cell (p := ⟨g, o + k * 2 + 1, none⟩) hg).trans e2
    have a0 := hA.cell 0
    have a1 := hA.cell 1
    simp at a0 a1 e1 e2
    have hyes := Lib.hid (show s1 = a → s2 = b → cnt (a, b) (l.take (k + 1)) = c + 1 by rintro rfl rfl; rw [hst, cnt_append, cnt_cons_same, ← hcc'.out]; rfl)
    have hno := Lib.hid (show ((s1, s2) : Int × Int) ≠ (a, b) → cnt (a, b) (l.take (k + 1)) = c by intro hne; rw [hst, cnt_append, cnt_cons_other hne, ← hcc'.out]; rfl)
    clear hs hst
    cases h1 : (s1 == a)
    · go_wp2
      go_quiet (fail)
      go_wp2
      go_roundw
      case rel => exact ⟨k + 1, c, by omega, by go_num, rfl, (hno.out (by intro e; cases e; simp at h1)).symm, below_drewN hbw nq, hA.drewN nq⟩
      case measure => simp [intOf]; omega
    · cases h2 : (s2 == b)
      · go_wp2
        go_quiet (fail)
        go_wp2
        go_roundw
        case rel => exact ⟨k + 1, c, by omega, by go_num, rfl, (hno.out (by intro e; cases e; simp at h2)).symm, below_drewN hbw nq, hA.drewN nq⟩
        case measure => simp [intOf]; omega
      · go_wp2
        go_quiet (fail)
        go_wp2
        go_roundw
        case rel => exact ⟨k + 1, c + 1, by omega, by go_num, by go_num, (hyes.out (by simpa using h1) (by simpa using h2)).symm, below_drewN hbw nq, hA.drewN nq⟩
        case measure => simp [intOf]; omega
  · obtain rfl : k = N := by omega
    have he : c = cnt (a, b) l := by rw [hcc'.out, ← hN'.out, List.take_length]
    have he' := Lib.hid he
    clear he
    go_wp2
    go_ret
    exact ⟨Route.ret_int (by rw [he'.out]), hbw⟩
theorem stand_out {t : List Rq} {pre : List (Int × Int)} {s : Int × Int} (h : inT t s.1 = false) : standB t pre s = false := by unfold standB; rw [h]; rfl
theorem stand_odd {t : List Rq} {pre : List (Int × Int)} {s : Int × Int} (h : s.2 ≠ 0) (h1 : s.2 ≠ 1) : standB t pre s = false := by unfold standB; simp [h, h1]
theorem stand_in {t : List Rq} {pre : List (Int × Int)} {s : Int × Int} (h : inT t s.1 = true) (h1 : s.2 = 0 ∨ s.2 = 1) : standB t pre s = (decide ((cnt (s.1, 0) pre : Int) = s.2) && decide ((cnt (s.1, 1) pre : Int) = 0)) := by
 unfold standB
 rw [h]
 rcases h1 with h1 | h1 <;> simp [h1]
set_option maxRecDepth 100000 in
set_option maxHeartbeats 2000000 in
theorem Stands_any (vl vt : Value) (l : List (Int × Int)) (t : List Rq) (s1 s2 : Int) (hl : l.length ≤ 1000000) (w : World) (hL : Row w.heap.size w vl l) (hT : Rqs w.heap.size w vt t) :
 Calls Tryz.prog 88 #[vl, .agg #[.int .i64 s1, .int .i64 s2], vt] w fun e w' => e = .returned (.bool (standB t l (s1, s2))) ∧ Below w.heap.size w w' := by
 obtain ⟨xt, Nt, capt, rfl, hNt, htc1, htc2, ht0⟩ := hT.opened
 obtain ⟨xl, N, cap, rfl, hN', h0', hc1, hc2⟩ := hL.opened
 have hNt' := Lib.hid hNt
 have hL' := Lib.hid hL
 have hlN : Hid (l.length ≤ 1000000) := Lib.hid hl
 unfold maxLen at htc2 hc2
 clear hT hNt ht0 hL hl h0'
 obtain ⟨w0, hw0⟩ : ∃ w0, w.alloc (.cells #[.int .i64 s1, .int .i64 s2] 82) = w0 := ⟨_, rfl⟩
 obtain ⟨q, hq⟩ : ∃ q, w.heap.size = q := ⟨_, rfl⟩
 have hS : At w0 q 82 #[.int .i64 s1, .int .i64 s2] := by rw [← hw0]; exact At.new_ _ _ _ hq.symm
 have hb0 : Below w.heap.size w w0 := by rw [← hw0]; exact (Below.refl _ _).alloc (Nat.le_refl _) _
 have hq' := Lib.hid hq
 have hw0' := Lib.hid hw0
 have c0 := hS.cell 0
 have c1 := hS.cell 1
 simp at c0 c1
 clear hw0 hq
 by_cases hin : inT t s1 = true
 case neg =>
  have hF := Lib.hid (stand_out (pre := l) (s := (s1, s2)) (Bool.eq_false_iff.2 hin))
  have hor : s1 < 0 ∨ (¬ s1 < 0 ∧ (Nt : Int) ≤ s1) := by
   have := hNt'.out
   simp only [inT, Bool.and_eq_true, decide_eq_true_eq] at hin
   omega
  clear hin
  rcases hor with h1 | ⟨h1, h2⟩
  · go_enter Tryz.func88, Tryz.ntmps88
    go_upto_region 1 with fail
    (try simp only [hq'.out])
    rw [hw0'.out]
    go_wp2
    go_ret
    exact ⟨Route.ret_bool hF.out.symm, hb0⟩
  · go_enter Tryz.func88, Tryz.ntmps88
    go_upto_region 1 with fail
    (try simp only [hq'.out])
    rw [hw0'.out]
    go_wp2
    go_ret
    exact ⟨Route.ret_bool hF.out.symm, hb0⟩
 case pos =>
 have hi2 : ¬ s1 < 0 ∧ ¬ (Nt : Int) ≤ s1 := by
  have := hNt'.out
  simp only [inT, Bool.and_eq_true, decide_eq_true_eq] at hin
  omega
 obtain ⟨h1, h2⟩ := hi2
 by_cases hk : s2 = 0 ∨ s2 = 1
 case neg =>
  have hF := Lib.hid (stand_odd (t := t) (pre := l) (s := (s1, s2)) (fun e => hk (.inl e)) (fun e => hk (.inr e)))
  have h3 : (s2 == 0) = false := by simp; exact fun e => hk (.inl e)
  have h4 : (s2 == 1) = false := by simp; exact fun e => hk (.inr e)
  have h5 : (s2 != 0) = true := by simp; exact fun e => hk (.inl e)
  have h6 : (s2 != 1) = true := by simp; exact fun e => hk (.inr e)
  clear hin hk
  go_enter Tryz.func88, Tryz.ntmps88
  go_upto_region 1 with fail
  (try simp only [hq'.out])
  rw [hw0'.out]
  go_wp2
  go_ret
  exact ⟨Route.ret_bool hF.out.symm, hb0⟩
 case pos =>
 have hF := Lib.hid (stand_in (pre := l) (s := (s1, s2)) hin hk)
 have hcN := fun (b : Int) d os => Calls.regrown_of (Many_any _ l s1 b (by have := hlN.out; omega) (grow (redrawn w0 d) os) ((hL'.out.keep (hb0.trans ((below_regrown w0 d os).mono hb0.size)) (Nat.le_refl _)).more (Nat.le_trans hb0.size (below_regrown w0 d os).size)))
 have hc0 := hcN 0
 have hc1' := hcN 1
 obtain ⟨C0, hC0⟩ : ∃ C, cnt (s1, 0) l = C := ⟨_, rfl⟩
 obtain ⟨C1, hC1⟩ : ∃ C, cnt (s1, 1) l = C := ⟨_, rfl⟩
 rw [hC0] at hc0
 rw [hC1] at hc1'
 simp only [hC0, hC1] at hF
 clear hC0 hC1 hcN hin
 have k0 := cell_regrown c0
 have k1 := cell_regrown c1
 have hsz := hb0.size
 rcases hk with rfl | rfl
 · go_enter Tryz.func88, Tryz.ntmps88
   go_upto_region 1 with fail
   (try simp only [hq'.out])
   rw [hw0'.out]
   go_upto_region 3 with fail
   refine wp_region_quiet_below (by kernel_rfl) (by kernel_rfl) ?_
   repeat (go_big_quiet_step (first | with_reducible exact hc0 _ _ | with_reducible exact hc1' _ _))
   refine wpQuiet_nil ?_
   intro _ hw'
   obtain ⟨⟨dq, osq⟩, hw''⟩ := hw'
   subst hw''
   have hB := hb0.trans ((below_regrown w0 dq osq).mono hsz)
   have hS5 := hS.keep (below_regrown w0 dq osq) hS.inside
   have c0 := hS5.cell 0
   have c1 := hS5.cell 1
   simp at c0 c1
   clear hS5 k0 k1 hc0 hc1'
   have hFo := hF.out
   clear hF
   generalize grow (redrawn w0 dq) osq = w5 at *
   cases e0 : ((C0 : Int) == 0)
   · have hF : Hid (standB t l (s1, 0) = false) := Lib.hid (by rw [hFo, decide_eq_false (by simpa using e0), Bool.false_and])
     clear hFo
     go_wp2
     go_ret
     exact ⟨Route.ret_bool hF.out.symm, hB⟩
   · cases e1 : ((C1 : Int) == 0)
     · have hF : Hid (standB t l (s1, 0) = false) := Lib.hid (by rw [hFo, decide_eq_false (p := (C1 : Int) = 0) (by simpa using e1), Bool.and_false])
       clear hFo
       go_wp2
       go_ret
       exact ⟨Route.ret_bool hF.out.symm, hB⟩
     · have hF : Hid (standB t l (s1, 0) = true) := Lib.hid (by rw [hFo, decide_eq_true (p := (C1 : Int) = 0) (by simpa using e1), decide_eq_true (by simpa using e0)]; rfl)
       clear hFo
       go_wp2
       go_ret
       exact ⟨Route.ret_bool hF.out.symm, hB⟩
 · go_enter Tryz.func88, Tryz.ntmps88
   go_upto_region 1 with fail
   (try simp only [hq'.out])
   rw [hw0'.out]
   go_upto_region 3 with fail
   refine wp_region_quiet_below (by kernel_rfl) (by kernel_rfl) ?_
   repeat (go_big_quiet_step (first | with_reducible exact hc0 _ _ | with_reducible exact hc1' _ _))
   refine wpQuiet_nil ?_
   intro _ hw'
   obtain ⟨⟨dq, osq⟩, hw''⟩ := hw'
   subst hw''
   have hB := hb0.trans ((below_regrown w0 dq osq).mono hsz)
   have hS5 := hS.keep (below_regrown w0 dq osq) hS.inside
   have c0 := hS5.cell 0
   have c1 := hS5.cell 1
   simp at c0 c1
   clear hS5 k0 k1 hc0 hc1'
   have hFo := hF.out
   clear hF
   generalize grow (redrawn w0 dq) osq = w5 at *
   cases e0 : ((C0 : Int) == 1)
   · have hF : Hid (standB t l (s1, 1) = false) := Lib.hid (by rw [hFo, decide_eq_false (by simpa using e0), Bool.false_and])
     clear hFo
     go_wp2
     go_ret
     exact ⟨Route.ret_bool hF.out.symm, hB⟩
   · cases e1 : ((C1 : Int) == 0)
     · have hF : Hid (standB t l (s1, 1) = false) := Lib.hid (by rw [hFo, decide_eq_false (p := (C1 : Int) = 0) (by simpa using e1), Bool.and_false])
       clear hFo
       go_wp2
       go_ret
       exact ⟨Route.ret_bool hF.out.symm, hB⟩
     · have hF : Hid (standB t l (s1, 1) = true) := Lib.hid (by rw [hFo, decide_eq_true (p := (C1 : Int) = 0) (by simpa using e1), decide_eq_true (by simpa using e0)]; rfl)
       clear hFo
       go_wp2
       go_ret
       exact ⟨Route.ret_bool hF.out.symm, hB⟩
def Ins (t : List Rq) (l : List (Int × Int)) : Prop := ∀ s ∈ l, 0 ≤ s.1 ∧ s.1 < t.length
theorem acc_abs {t : List Rq} (ht : ∀ q ∈ t, q.chk = 0) {l : List (Int × Int)} (h : Ins t l) : -(1000 * (l.length : Int)) ≤ acc t l ∧ acc t l ≤ 1000 * (l.length : Int) := by
 induction l with
 | nil => exact ⟨Int.le_refl _, Int.le_refl _⟩
 | cons s l ih =>
  have i := ih fun x hx => h x (List.mem_cons_of_mem _ hx)
  have hs := h s (List.mem_cons_self ..)
  have hq : t[s.1.toNat]? = some (t[s.1.toNat]'(by omega)) := List.getElem?_eq_getElem _
  have hl := chk_ld ht _ (List.getElem_mem (h := (by omega : s.1.toNat < t.length)))
  have e : acc t (s :: l) = sg s.2 * ldR t s.1 + acc t l := rfl
  rw [e, ldR_get hq, List.length_cons]
  unfold sg
  split <;> omega
set_option maxRecDepth 100000 in
set_option maxHeartbeats 2000000 in
theorem Board_any (vl vt : Value) (l : List (Int × Int)) (t : List Rq) (hl : l.length ≤ 1000000) (ht : ∀ q ∈ t, q.chk = 0) (hin : Ins t l) (w : World) (hL : Row w.heap.size w vl l) (hT : Rqs w.heap.size w vt t) :
 Calls Tryz.prog 71 #[vl, vt] w fun e w' => e = .returned (.int .i64 (acc t l)) ∧ Below w.heap.size w w' := by
 obtain ⟨xt, Nt, capt, rfl, hNt, htc1, htc2, ht0⟩ := hT.opened
 obtain ⟨xl, N, cap, rfl, hN', h0', hc1, hc2⟩ := hL.opened
 have hNt' := Lib.hid hNt
 have hL' := Lib.hid hL
 have hT' := Lib.hid hT
 have hlN : N ≤ 1000000 := by rw [← hN'.out]; exact hl
 have hin' := Lib.hid hin
 have ht' := Lib.hid ht
 unfold maxLen at htc2 hc2
 clear hT hNt ht0 hL hl h0' hin ht
 go_enter Tryz.func71, Tryz.ntmps71
 go_wp2
 go_loopw [5, 6] (fun n i wr => ∃ (k : Nat), k ≤ N ∧ i = .int .i64 k ∧ n = .int .i64 (acc t (l.take k)) ∧ Below w.heap.size w wr) (fun _ i _ => N - (intOf i).toNat)
 case atStart => exact ⟨0, by omega, rfl, rfl, Below.refl _ _⟩
 case round =>
  obtain ⟨k, hk, rfl, rfl, hbw⟩ := hrel
  by_cases hlt : k < N
  · obtain ⟨⟨s1, s2⟩, hs⟩ : ∃ s, l[k]? = some s := ⟨l[k]'(by rw [hN'.out]; exact hlt), List.getElem?_eq_getElem _⟩
    have hbd := acc_abs ht'.out (l := l.take k) (fun x hx => hin'.out x (List.mem_of_mem_take hx))
    obtain ⟨hr0, hr1⟩ := hin'.out _ (List.mem_of_getElem? hs)
    simp only at hr0 hr1
    obtain ⟨r, rfl⟩ : ∃ r : Nat, s1 = r := ⟨s1.toNat, by omega⟩
    have hrN : r < Nt := by have := hNt'.out; omega
    have hq : t[r]? = some (t[r]'(by rw [hNt'.out]; exact hrN)) := List.getElem?_eq_getElem _
    have hld := chk_ld ht'.out _ (List.getElem_mem (h := (by rw [hNt'.out]; exact hrN : r < t.length)))
    have hac : Hid (acc t (l.take (k + 1)) = acc t (l.take k) + sg s2 * (t[r]'(by rw [hNt'.out]; exact hrN)).ld) := Lib.hid (by
     rw [Route.take_get hs, acc_snoc]
     unfold stN
     rw [ldR_get (r := (r : Int)) (show t[((r : Int)).toNat]? = some _ from hq)])
    generalize (t[r]'(by rw [hNt'.out]; exact hrN)) = y at *
    obtain ⟨g, o, rfl, hg, e1, e2⟩ := Row.stop (hL'.out.keep hbw (Nat.le_refl _)) hs
    obtain ⟨gt, ot, rfl, hgt, -, -, -, -, -, -, -, -, d8, -⟩ := Rqs.at (hT'.out.keep hbw (Nat.le_refl _)) hq
    obtain ⟨hb1, hb2⟩ := hbd
    obtain ⟨hl1, hl2⟩ := hld
    have hlk : ((l.take k).length : Int) ≤ 1000000 := by rw [List.length_take]; omega
    obtain ⟨A, hA⟩ : ∃ A, acc t (l.take k) = A := ⟨_, rfl⟩
    rw [hA] at hb1 hb2 hac ⊢
    have ha1 : -1000000000 ≤ A := by omega
    have ha2 : A ≤ 1000000000 := by omega
    have hlti : (k : Int) < N := by omega
    have hrNi : (r : Int) < Nt := by omega
    simp only at e1 e2
    clear hs hq hr0 hr1 hb1 hb2 hlk hA
    by_cases h0 : s2 = 0
    · subst h0
      have hac2 := Lib.hid (show acc t (l.take (k + 1)) = A + y.ld by rw [hac.out]; simp [sg])
      clear hac
      go_wp2
      go_roundw
      case rel => exact ⟨k + 1, by omega, by go_num, by rw [hac2.out], hbw⟩
      case measure => simp [intOf]; omega
    · have h00 : (s2 == 0) = false := by simpa using h0
      have hac2 := Lib.hid (show acc t (l.take (k + 1)) = A - y.ld by rw [hac.out]; simp [sg, h0]; omega)
      clear hac h0
      go_wp2
      go_roundw
      case rel => exact ⟨k + 1, by omega, by go_num, by rw [hac2.out], hbw⟩
      case measure => simp [intOf]; omega
  · obtain rfl : k = N := by omega
    have he : Hid (acc t (l.take k) = acc t l) := Lib.hid (by rw [← hN'.out, List.take_length])
    generalize acc t (l.take k) = A at *
    go_wp2
    go_ret
    exact ⟨Route.ret_int he.out, hbw⟩
def goE (a : Sp) (x : Vi) : Sp := ⟨max (arV a x) x.we + x.sv, x.px, x.py⟩
def leaveV (v : Vh) (t : List Rq) (l : List (Int × Int)) : Sp := (visL t l).foldl goE (sp0 v)
theorem leave_snoc (v : Vh) (t : List Rq) (l : List (Int × Int)) (s : Int × Int) : leaveV v t (l ++ [s]) = goE (leaveV v t l) (visV t s) := by simp [leaveV, visL]
theorem goE_go (k : Nat) (a : Sp) (x : Vi) : goP earlyP k a x = goE a x := rfl
theorem leave_bd {v : Vh} {t : List Rq} (hst : 0 ≤ v.st ∧ v.st ≤ 1048576) {l : List (Int × Int)} (h : ∀ s ∈ l, ∃ x, visO t s = some x ∧ OkVi x) : 0 ≤ (leaveV v t l).now ∧ (leaveV v t l).now ≤ 1048576 + 1200000 * (l.length : Int) := by
 induction l using snoc_ind with
 | h0 => exact ⟨hst.1, by show v.st ≤ _; simp; omega⟩
 | h1 l s ih =>
  obtain ⟨i1, i2⟩ := ih fun x hx => h x (List.mem_append.2 (.inl hx))
  obtain ⟨x, hx, ho⟩ := h s (by simp)
  obtain ⟨h1, h2, h3, h4, h5⟩ := ho
  rw [leave_snoc, (vis_some hx).1]
  have := dist_bd ((leaveV v t l).px, (leaveV v t l).py) (x.px, x.py)
  unfold goE arV
  dsimp only
  rw [List.length_append, List.length_singleton]
  omega
theorem res_pt {fn : Func} {p c : Tmp} (h : fn.results = #[.cell p 30, .tmp c]) {tmps : Array Value} {w : World} {g : Nat} {x y b : Value} (hp : tmps.getD p undef = .pointer (some ⟨g, 0, none⟩)) (hc : tmps.getD c undef = b)
 (c0 : w.cell? ⟨g, 0, none⟩ = some x) (c1 : w.cell? ⟨g, 1, none⟩ = some y) : (results fn tmps).run Tryz.prog w = .ok (.tuple #[.agg #[x, y], b]) w := by
 have hp' : tmps[p]?.getD undef = .pointer (some ⟨g, 0, none⟩) := by simpa using hp
 have hc' : tmps[c]?.getD undef = b := by simpa using hc
 simp only [results, h]
 go_simp
theorem ret_lv {a b c d e f : Int} (h : a = d) (h2 : b = e) (h3 : c = f) : Ending.returned (.tuple #[.agg #[.int .i64 a, .int .i64 b], .int .i64 c]) = .returned (.tuple #[.agg #[.int .i64 d, .int .i64 e], .int .i64 f]) := by rw [h, h2, h3]
set_option maxRecDepth 100000 in
set_option maxHeartbeats 4000000 in
theorem Leaves_any (v : Vh) (vl vt : Value) (l : List (Int × Int)) (t : List Rq) (hl : l.length ≤ 100) (hst : 0 ≤ v.st ∧ v.st ≤ 1048576) (hvis : ∀ s ∈ l, ∃ x, visO t s = some x ∧ OkVi x) (w : World) (hL : Row w.heap.size w vl l) (hT : Rqs w.heap.size w vt t) :
 Calls Tryz.prog 72 #[.agg #[.int .i64 v.hx, .int .i64 v.hy, .int .i64 v.cp, .int .i64 v.st, .int .i64 v.en], vl, vt] w fun e w' =>
  e = .returned (.tuple #[.agg #[.int .i64 (leaveV v t l).px, .int .i64 (leaveV v t l).py], .int .i64 (leaveV v t l).now]) ∧ Below w.heap.size w w' := by
 obtain ⟨xt, Nt, capt, rfl, hNt, htc1, htc2, ht0⟩ := hT.opened
 obtain ⟨xl, N, capl, rfl, hN', h0', hlc1, hlc2⟩ := hL.opened
 obtain ⟨q, hq⟩ : ∃ q, w.heap.size = q := ⟨_, rfl⟩
 have hNt' := Lib.hid hNt
 have hlN : N ≤ 100 := by rw [← hN'.out]; exact hl
 rw [hq] at hL hT ⊢
 have hL' := Lib.hid hL
 have hT' := Lib.hid hT
 have hq' := Lib.hid hq
 have hvis' := Lib.hid hvis
 have hbdl := Lib.hid (fun (k : Nat) => leave_bd hst (l := l.take k) fun s hs => hvis s (List.mem_of_mem_take hs))
 unfold maxLen at htc2 hlc2
 obtain ⟨w1, hw1⟩ : ∃ w1, (w.alloc (.cells #[.int .i64 v.hx, .int .i64 v.hy, .int .i64 v.cp, .int .i64 v.st, .int .i64 v.en] 32)).alloc (.cells #[.int .i64 0, .int .i64 0] 30) = w1 := ⟨_, rfl⟩
 have hV1 : At w1 q 32 #[.int .i64 v.hx, .int .i64 v.hy, .int .i64 v.cp, .int .i64 v.st, .int .i64 v.en] := by rw [← hw1]; exact (At.new_ _ _ _ hq.symm).alloc _
 have hR1 : At w1 (q + 1) 30 #[.int .i64 0, .int .i64 0] := by rw [← hw1]; exact At.new_ _ _ _ (by simp [hq])
 have hb1 : Below q w w1 := by rw [← hw1]; exact ((Below.refl _ _).alloc (by omega) _).alloc (by simp; omega) _
 have hs1 : w1.heap.size = q + 2 := by rw [← hw1]; simp [hq]
 have hs1' := Lib.hid hs1
 have hw1' := Lib.hid hw1
 clear hT hNt ht0 hL hl h0' hvis hw1 hs1 hq hst
 go_enter Tryz.func72, Tryz.ntmps72
 go_upto_region 1 with fail
 simp only [hq'.out]
 rw [hw1'.out]
 have c0 := hV1.cell 0
 have c1 := hV1.cell 1
 have c3 := hV1.cell 3
 simp at c0 c1 c3
 go_cut [8, 9] from 12 to 15 (fun s8 s9 wx => s8 = .pointer (some ⟨q + 2, 0, none⟩) ∧ s9 = .int .i64 v.st ∧ At wx (q + 2) 30 #[.int .i64 v.hx, .int .i64 v.hy] ∧ Below w1.heap.size w1 wx)
 case first =>
  have hsz : w1.heap.size = q + 2 := hs1'.out
  go_region
  all_goals
   go_wp2_with fail
   go_meet
   refine ⟨by rw [← hs1'.out], rfl, ?_, ?_⟩
   · rw [← hs1'.out]
     repeat (first | with_reducible exact At.new_ _ _ _ rfl | (with_reducible refine At.new_ _ _ _ ?_; simp; done) | with_reducible refine At.far ?_ (by simp <;> omega) _ _ | with_reducible refine At.drew ?_ | with_reducible refine At.alloc ?_ _)
   · repeat (first | with_reducible refine Below.drew ?_ | with_reducible refine Below.setCell ?_ (by simp) _ | with_reducible refine Below.alloc ?_ (by simp <;> omega) _ | with_reducible exact Below.refl _ _)
 case rest =>
 obtain ⟨rfl, rfl, hA2, hb2⟩ := hcut
 obtain ⟨w2, rfl⟩ : ∃ w2, w2 = wc := ⟨_, rfl⟩
 have hR2 := hR1.keep hb2 hR1.inside
 have hB2 : Below q w w2 := hb1.trans (hb2.mono (by rw [hs1'.out]; omega))
 clear hb2 hV1 hR1 c0 c1 c3 hb1
 go_wp2
 go_loopw [9, 10] (fun nv i wr => ∃ k : Nat, i = .int .i64 k ∧ k ≤ N ∧ nv = .int .i64 (leaveV v t (l.take k)).now ∧ At wr (q + 2) 30 #[.int .i64 (leaveV v t (l.take k)).px, .int .i64 (leaveV v t (l.take k)).py] ∧ At wr (q + 1) 30 #[.int .i64 0, .int .i64 0] ∧ Below q w wr) (fun _ i _ => N - (intOf i).toNat)
 case atStart => exact ⟨0, rfl, Nat.zero_le _, rfl, hA2, hR2, hB2⟩
 case round =>
  obtain ⟨k, rfl, hk, rfl, hA, hR, hB⟩ := hrel
  clear hA2 hR2 hB2
  by_cases hlt : k < N
  · obtain ⟨⟨s1, s2⟩, hs⟩ : ∃ s, l[k]? = some s := ⟨l[k]'(by rw [hN'.out]; exact hlt), List.getElem?_eq_getElem _⟩
    obtain ⟨x, hx, hok⟩ := hvis'.out _ (List.mem_of_getElem? hs)
    obtain ⟨hx1, hx2, hx3, hx4, hx5⟩ := hok
    have hlt2 : (k : Int) < N := by omega
    have hstop : Hid (∀ W, Below q w W → ∃ g o, xl = some ⟨g, o, none⟩ ∧ W.cell? ⟨g, o + k * 2, none⟩ = some (.int .i64 s1) ∧ W.cell? ⟨g, o + k * 2 + 1, none⟩ = some (.int .i64 s2)) := Lib.hid fun W hW => by
     obtain ⟨g, o, e, _, h1, h2⟩ := Row.stop (hL'.out.keep hW (Nat.le_refl _)) hs
     exact ⟨g, o, e, h1, h2⟩
    obtain ⟨gl, ol, rfl, -, -⟩ := hstop.out wr hB
    obtain ⟨qr, hqr, hr0, hr1, hsv, -⟩ := visO_some hx
    simp only at hqr hr0 hr1 hsv
    obtain ⟨j, rfl⟩ : ∃ j : Nat, s1 = j := ⟨s1.toNat, by omega⟩
    simp only [Int.toNat_natCast] at hqr
    have hj1 : j < Nt := by have := hNt'.out; omega
    have hj2 : (j : Int) < Nt := by omega
    obtain ⟨gt, ot, rfl, -, -⟩ := Rqs.at (hT'.out.keep hB (Nat.le_refl _)) hqr
    have hmem : Hid (∀ W, Below q w W → W.cell? ⟨gl, ol + k * 2, none⟩ = some (.int .i64 j) ∧ W.cell? ⟨gl, ol + k * 2 + 1, none⟩ = some (.int .i64 s2) ∧ W.cell? ⟨gt, ot + j * 10 + 9, none⟩ = some (.int .i64 x.sv)) := Lib.hid fun W hW => by
     obtain ⟨g, o, e, h1, h2⟩ := hstop.out W hW
     cases e
     obtain ⟨g2, o2, e2, _, h3⟩ := Rqs.at (hT'.out.keep hW (Nat.le_refl _)) hqr
     cases e2
     exact ⟨h1, h2, by rw [hsv]; exact h3.2.2.2.2.2.2.2.2.2⟩
    have hx' := Lib.hid hx
    have hnx : Hid (leaveV v t (l.take (k + 1)) = goE (leaveV v t (l.take k)) x) := Lib.hid (by rw [Route.take_get hs, leave_snoc, (vis_some hx).1])
    obtain ⟨hn1, hn2⟩ := hbdl.out k
    have hlk : ((l.take k).length : Int) ≤ 100 := by rw [List.length_take]; omega
    obtain ⟨S, hS⟩ : ∃ S, leaveV v t (l.take k) = S := ⟨_, rfl⟩
    rw [hS] at hA hnx hn1 hn2 ⊢
    obtain ⟨now, ax, ay⟩ := S
    simp only at hA hn1 hn2 ⊢
    have hn3 : now ≤ 200000000 := by omega
    clear hs hx hqr hr0 hr1 hsv hS hn2 hlk
    obtain ⟨e0, e1, e9⟩ := hmem.out wr hB
    have hAi := hA.inside
    have hpl := rPlace_any j s2 _ t x wr hx'.out ((hT'.out.keep hB (Nat.le_refl _)).more (by omega))
    go_wp2_with fail
    refine hpl.mono ?_
    clear hpl e0 e1 e9
    rintro e w4 ⟨rfl, hb4⟩
    obtain ⟨m1, hm1⟩ : ∃ m1, w4.heap.size = m1 := ⟨_, rfl⟩
    obtain ⟨w5, hw5⟩ : ∃ w5, w4.alloc (.cells #[.int .i64 x.px, .int .i64 x.py] 30) = w5 := ⟨_, rfl⟩
    have hX5 : At w5 m1 30 #[.int .i64 x.px, .int .i64 x.py] := by rw [← hw5]; exact At.new_ _ _ _ hm1.symm
    have hb5 : Below w4.heap.size w4 w5 := by rw [← hw5]; exact (Below.refl _ _).alloc (Nat.le_refl _) _
    have hb35 := hb4.trans (hb5.mono hb4.size)
    have hA5 := hA.keep hb35 hA.inside
    have hR5 := hR.keep hb35 hR.inside
    have hB5 := hB.trans (hb35.mono (by omega))
    have hm1q : q + 2 < m1 := by have := hb4.size; omega
    have hw5' := Lib.hid hw5
    have hm1' := Lib.hid hm1
    clear hb4 hb5 hb35 hA hR hB hw5 hm1 hAi
    go_upto_region 6 with fail
    simp only [hm1'.out]
    rw [hw5'.out]
    obtain ⟨D, hD⟩ : ∃ D, distV (ax, ay) (x.px, x.py) = D := ⟨_, rfl⟩
    have hDb : 0 ≤ D ∧ D ≤ 100000 := by rw [← hD]; exact dist_bd _ _
    obtain ⟨hD1, hD2⟩ := hDb
    have hcD := fun d os => Calls.regrown_of (refDist_any ax ay x.px x.py (grow (redrawn w5 d) os))
    rw [hD] at hcD
    have hD' := Lib.hid hD
    clear hD
    have a0 := hA5.cell 0
    have a1 := hA5.cell 1
    have x0 := hX5.cell 0
    have x1 := hX5.cell 1
    simp at a0 a1 x0 x1
    obtain ⟨e0, e1, e9⟩ := hmem.out w5 hB5
    have ka0 := cell_regrown a0
    have ka1 := cell_regrown a1
    have kx0 := cell_regrown x0
    have kx1 := cell_regrown x1
    have ke0 := cell_regrown e0
    have ke1 := cell_regrown e1
    have ke9 := cell_regrown e9
    have hs7 : q ≤ w5.heap.size := by have := hA5.inside; omega
    have kW := fun d os => Calls.regrown_of (rWindow_any j s2 _ t x (grow (redrawn w5 d) os) hx'.out ((hT'.out.keep (hB5.trans ((below_regrown w5 d os).mono hs7)) (Nat.le_refl _)).more (Nat.le_trans hs7 (below_regrown w5 d os).size)))
    have hfl : ∀ W, (Instr.field 41 (.agg #[.int .i64 x.we, .int .i64 x.wl]) 0).run Tryz.prog W = .ok (.int .i64 x.we) W := fun _ => by kernel_rfl
    refine wp_region_quiet_below (by kernel_rfl) (by kernel_rfl) ?_
    repeat (go_big_quiet_step (first | with_reducible exact kW _ _ | with_reducible exact hcD _ _))
    refine wpQuiet_nil ?_
    intro _ hw'
    obtain ⟨⟨dq, osq⟩, hw''⟩ := hw'
    subst hw''
    have hb8 := below_regrown w5 dq osq
    have hX8 := hX5.keep hb8 hX5.inside
    have hA8 := hA5.keep hb8 hA5.inside
    have hR8 := hR5.keep hb8 hR5.inside
    have hB8 := hB5.trans (hb8.mono hs7)
    clear kW ke0 ke1 ke9 ka0 ka1 kx0 kx1 e0 e1 e9 a0 a1 x0 x1 hfl hs7 hA5 hX5 hR5 hB5 hb8 hcD
    generalize grow (redrawn w5 dq) osq = w8 at *
    have x0 := hX8.cell 0
    have x1 := hX8.cell 1
    have a0 := hA8.cell 0
    have a1 := hA8.cell 1
    have af := hA8.free
    simp at x0 x1 a0 a1
    have hqm : q + 2 ≠ m1 := by omega
    have hqm' : m1 ≠ q + 2 := by omega
    have hAi := hA8.inside
    have hA9 := put2 (y0 := .int .i64 x.px) (y1 := .int .i64 x.py) hA8
    have hR9 := (hR8.far (b := q + 2) (by omega) 0 (.int .i64 x.px)).far (b := q + 2) (by omega) 1 (.int .i64 x.py)
    have hB9 : Below q w ((w8.setCell ⟨q + 2, 0, none⟩ (.int .i64 x.px)).setCell ⟨q + 2, 1, none⟩ (.int .i64 x.py)) := (hB8.setCell (by simp) _).setCell (by simp) _
    have hgo : Hid (goE ⟨now, ax, ay⟩ x = ⟨max (now + D) x.we + x.sv, x.px, x.py⟩) := Lib.hid (by unfold goE arV; rw [hD'.out])
    go_wp2
    go_roundw
    case rel =>
     refine ⟨k + 1, by go_num, hlt, ?_, ?_, ?_, ?_⟩
     · rw [hnx.out, hgo.out]
     · rw [hnx.out, hgo.out]; exact hA9
     · exact hR9
     · exact hB9
    case measure => simp [intOf]; omega
  · obtain rfl : k = N := by omega
    have he : Hid (leaveV v t (l.take k) = leaveV v t l) := Lib.hid (by rw [← hN'.out, List.take_length])
    generalize leaveV v t (l.take k) = S at *
    have a0 := hA.cell 0
    have a1 := hA.cell 1
    have r0 := hR.cell 0
    have r1 := hR.cell 1
    have rf := hR.free
    simp at a0 a1 r0 r1
    have hAi := hA.inside
    have hRf := put2 (y0 := .int .i64 S.px) (y1 := .int .i64 S.py) hR
    have hBf : Below q w ((wr.setCell ⟨q + 1, 0, none⟩ (.int .i64 S.px)).setCell ⟨q + 1, 1, none⟩ (.int .i64 S.py)) := (hB.setCell (by simp) _).setCell (by simp) _
    have z0 := hRf.cell 0
    have z1 := hRf.cell 1
    simp at z0 z1
    go_wp2
    refine bodyPost_ret (res_pt rfl (x := .int .i64 S.px) (y := .int .i64 S.py) (b := .int .i64 S.now) (g := q + 1) (by go_simp) (by go_simp) z0 z1) rfl ?_
    exact ⟨ret_lv (by rw [he.out]) (by rw [he.out]) (by rw [he.out]), hBf⟩
end Go.Proofs.YteclpblfleakhaaGreatDoor.Feas

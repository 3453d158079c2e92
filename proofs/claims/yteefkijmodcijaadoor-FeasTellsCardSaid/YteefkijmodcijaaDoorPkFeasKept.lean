import Derived.Test.YteefkijmodcijaaDoorPkWindowAsk
import Derived.WalkMore

/-
  The paces' contracts: as early as can be, and by given times; both are bounded.
-/
namespace Go.Proofs.YteefkijmodcijaaDoor.Feas
open Go.RowKit Go.Sort Go.Proofs.YteefkijmodcijaaDoor.Mem Go.Proofs.YteefkijmodcijaaDoor.Route Go.Proofs.YteefkijmodcijaaDoor.When Go.Proofs.YteefkijmodcijaaDoor.Load Go.Proofs.YteefkijmodcijaaDoor.Float Go.Proofs.YteefkijmodcijaaDoor.Tail Go.Proofs.YteefkijmodcijaaDoor.Place
set_option linter.unusedVariables false

/-- Who is served leaves at no great time. -/
def PB (P : Pace) : Prop := ∀ (k : Nat) (x : Vi) (n : Int), OkVi x → 0 ≤ n → (P k x n).2 = true → 0 ≤ (P k x n).1 ∧ (P k x n).1 ≤ 2000000
theorem pb_early : PB earlyP := fun k x n h hn hs => by
  simp only [earlyP, decide_eq_true_eq] at hs ⊢
  obtain ⟨h1, h2, h3, h4, h5⟩ := h
  omega
theorem pb_kept (ts : List Tm) : PB (keptP ts) := fun k x n h hn hs => by
  simp only [keptP, keptB, Bool.and_eq_true, decide_eq_true_eq] at hs ⊢
  obtain ⟨h1, h2, h3, h4, h5⟩ := h
  omega

theorem early_pace (L : Nat) (w : World) (B : Nat) : PaceC 38 #[] L w B earlyP := fun w' _ k x m hk hok hm1 hm2 => by
  obtain ⟨h1, h2, h3, h4, h5⟩ := hok
  exact earliest_any k x.px x.py x.we x.wl x.sv m (by omega) (by omega) (by omega) w'

section
variable {x : Vi} {n : Int} {y : Tm}
theorem kept_1 (h : ¬ n ≤ y.ar) : keptB x n y = false := by unfold keptB; simp [h]
theorem kept_2 (h : ¬ y.ar ≤ y.be) : keptB x n y = false := by unfold keptB; simp [h]
theorem kept_3 (h : ¬ x.we ≤ y.be) : keptB x n y = false := by unfold keptB; simp [h]
theorem kept_4 (h : ¬ y.be ≤ x.wl) : keptB x n y = false := by unfold keptB; simp [h]
theorem kept_5 (h1 : n ≤ y.ar) (h2 : y.ar ≤ y.be) (h3 : x.we ≤ y.be) (h4 : y.be ≤ x.wl) : keptB x n y = (y.lv == y.be + x.sv) := by
  unfold keptB
  rw [Bool.eq_iff_iff]
  simp [h1, h2, h3, h4]
end

set_option maxRecDepth 100000 in
set_option maxHeartbeats 4000000 in
theorem kept_any (ts : List Tm) (k : Nat) (x : Vi) (m : Int) (b B : Nat) (vs : Value) (w : World) (hb : At w b 30 #[vs]) (hts : Tms B w vs ts) (hB : B ≤ w.heap.size) (hk : k < ts.length) (hok : OkVi x) (hm : 0 ≤ m) :
    Calls Tryd.prog 58 #[.int .i64 k, .agg #[.int .i64 x.px, .int .i64 x.py, .int .i64 x.we, .int .i64 x.wl, .int .i64 x.sv], .int .i64 m, .pointer (some ⟨b, 0, none⟩)] w fun e w' =>
      e = .returned (.tuple #[.int .i64 (keptP ts k x m).1, .bool (keptP ts k x m).2]) ∧ Below w.heap.size w w' := by
  obtain ⟨xs, N, cap, rfl, hN, hc1, hc2, hx0⟩ := hts.opened
  obtain ⟨y, hy⟩ : ∃ y, ts[k]? = some y := ⟨ts[k], List.getElem?_eq_getElem hk⟩
  have hP1 : (keptP ts k x m).1 = y.lv := by unfold keptP tmAt; rw [hy]; rfl
  have hP2 : (keptP ts k x m).2 = keptB x m y := by unfold keptP tmAt; rw [hy]; rfl
  rw [hP1, hP2]
  obtain ⟨q, hq⟩ : ∃ q, w.heap.size = q := ⟨_, rfl⟩
  obtain ⟨w1, hw1⟩ : ∃ w1, w.alloc (.cells #[.int .i64 x.px, .int .i64 x.py, .int .i64 x.we, .int .i64 x.wl, .int .i64 x.sv] 120) = w1 := ⟨_, rfl⟩
  have hb1 : Below w.heap.size w w1 := by rw [← hw1]; exact (Below.refl _ _).alloc (Nat.le_refl _) _
  have hX : At w1 q 120 #[.int .i64 x.px, .int .i64 x.py, .int .i64 x.we, .int .i64 x.wl, .int .i64 x.sv] := by rw [← hw1]; exact At.new_ _ _ _ hq.symm
  have hb2 := hb.keep hb1 hb.inside
  obtain ⟨g, o, rfl, hg, c0, c1, c2⟩ := (hts.keep hb1 hB).at hy
  have hk1 : k < N := by omega
  have hk2 : (k : Int) < N := by omega
  have hw1' := Lib.hid hw1
  have hq' := Lib.hid hq
  obtain ⟨h1, h2, h3, h4, h5⟩ := hok
  have b0 := hb2.cell 0
  simp at b0
  obtain ⟨w2, hw2⟩ : ∃ w2, w1.alloc (.cells #[.int .i64 y.ar, .int .i64 y.be, .int .i64 y.lv] 40) = w2 := ⟨_, rfl⟩
  have hs1 : w1.heap.size = q + 1 := by rw [← hw1]; simp [hq]
  have hX2 : At w2 q 120 #[.int .i64 x.px, .int .i64 x.py, .int .i64 x.we, .int .i64 x.wl, .int .i64 x.sv] := by rw [← hw2]; exact hX.alloc _
  have hY2 : At w2 (q + 1) 40 #[.int .i64 y.ar, .int .i64 y.be, .int .i64 y.lv] := by rw [← hw2]; exact At.new_ _ _ _ hs1.symm
  have hB2 : Below w.heap.size w w2 := by rw [← hw2]; exact hb1.alloc (by omega) _
  have hw2' := Lib.hid hw2
  have hs1' := Lib.hid hs1
  have a2 := hX2.cell 2
  have a3 := hX2.cell 3
  have a4 := hX2.cell 4
  have y0 := hY2.cell 0
  have y1 := hY2.cell 1
  have y2 := hY2.cell 2
  simp at a2 a3 a4 y0 y1 y2
  clear hP1 hP2 hw1 hq hb hts hB hk hN hx0 hy hb1 hX hb2 hw2 hs1 hX2 hY2
  cases d1 : decide (x.we ≤ y.be) <;> cases d2 : decide (y.be ≤ x.wl) <;> cases d3 : decide (m ≤ y.ar) <;> cases d4 : decide (y.ar ≤ y.be)
  all_goals
    first
      | have hF := Lib.hid (kept_3 (n := m) (of_decide_eq_false d1))
      | have hF := Lib.hid (kept_4 (n := m) (of_decide_eq_false d2))
      | have hF := Lib.hid (kept_1 (x := x) (of_decide_eq_false d3))
      | have hF := Lib.hid (kept_2 (x := x) (n := m) (of_decide_eq_false d4))
      | have hF := Lib.hid (kept_5 (of_decide_eq_true d3) (of_decide_eq_true d4) (of_decide_eq_true d1) (of_decide_eq_true d2))
    first
      | (have e1 := of_decide_eq_true d1; have e2 := of_decide_eq_true d2)
      | skip
    go_enter Tryd.func58, Tryd.ntmps58
    go_upto_region 1 with fail
    simp only [hq'.out]
    rw [hw1'.out]
    go_upto_region 2 with fail
    simp only [hs1'.out]
    rw [hw2'.out]
    go_upto_region 3 with fail
    go_quiet (fail)
    go_wp2
    refine bodyPost_ret (v := .tuple #[.int .i64 _, .bool _]) (by simp [results, Tryd.results58, go_sem]; exact ⟨rfl, rfl⟩) rfl ?_
    exact ⟨ret_nb rfl hF.out.symm, below_drewN hB2 nq⟩

end Go.Proofs.YteefkijmodcijaaDoor.Feas

/-
  The contract of package feas's trip's walk, by whatever pace.
-/
namespace Go.Proofs.YteefkijmodcijaaDoor.Feas
open Go.RowKit Go.Sort Go.Proofs.YteefkijmodcijaaDoor.Mem Go.Proofs.YteefkijmodcijaaDoor.Route Go.Proofs.YteefkijmodcijaaDoor.When Go.Proofs.YteefkijmodcijaaDoor.Load Go.Proofs.YteefkijmodcijaaDoor.Float Go.Proofs.YteefkijmodcijaaDoor.Tail Go.Proofs.YteefkijmodcijaaDoor.Place
set_option linter.unusedVariables false

/-- A trip has come so far: behind these stops, there. -/
structure TripS (v : Vh) (vt kv : Value) (g mb : Nat) (t : List Rq) (pre : List (Int × Int)) (a : Sp) (W : World) : Prop where
  trip : At W g 115 #[.int .i64 v.hx, .int .i64 v.hy, .int .i64 v.cp, .int .i64 v.st, .int .i64 v.en, vt, kv, .map (some mb), .int .i64 (acc t pre), .int .i64 a.px, .int .i64 a.py, .int .i64 a.now]
  fate : FateAt W mb pre.length (fateF pre)
  now : 0 ≤ a.now ∧ a.now ≤ 500000000
  len : pre.length ≤ 16
  acc : -1000 * (pre.length : Int) ≤ acc t pre ∧ acc t pre ≤ 1000 * (pre.length : Int)

/-- The walk has come to the k-th stop. -/
def WalkI (v : Vh) (vt kv : Value) (g mb : Nat) (t : List Rq) (P : Pace) (l : List (Int × Int)) (w : World) (k : Nat) (W : World) : Prop :=
  ∃ a, TripS v vt kv g mb t (l.take k) a W ∧ walkV v t P [] (sp0 v) l = walkV v t P (l.take k) a (l.drop k) ∧ Two g mb w W

theorem walk_step {v : Vh} {t : List Rq} {P : Pace} {l : List (Int × Int)} {k : Nat} {a : Sp} {s : Int × Int} (hs : l[k]? = some s) (hw : walkV v t P [] (sp0 v) l = walkV v t P (l.take k) a (l.drop k)) (h0 : srvV v t P (l.take k) a s = 0) :
    walkV v t P [] (sp0 v) l = walkV v t P (l.take (k + 1)) (goP P (l.take k).length a (visV t s)) (l.drop (k + 1)) := by
  obtain ⟨hlt, hx⟩ := List.getElem?_eq_some_iff.1 hs
  rw [hw, List.drop_eq_getElem_cons hlt, hx, walkV_go h0, Load.take_get hs]
theorem walk_bad {v : Vh} {t : List Rq} {P : Pace} {l : List (Int × Int)} {k : Nat} {a : Sp} {s : Int × Int} (hs : l[k]? = some s) (hw : walkV v t P [] (sp0 v) l = walkV v t P (l.take k) a (l.drop k)) (h0 : srvV v t P (l.take k) a s ≠ 0) :
    walkV v t P [] (sp0 v) l = (srvV v t P (l.take k) a s, k, a) := by
  obtain ⟨hlt, hx⟩ := List.getElem?_eq_some_iff.1 hs
  rw [hw, List.drop_eq_getElem_cons hlt, hx, walkV_stop h0, List.length_take]
  rw [show min k l.length = k by omega]
theorem walk_end {v : Vh} {t : List Rq} {P : Pace} {l : List (Int × Int)} {a : Sp} (hw : walkV v t P [] (sp0 v) l = walkV v t P (l.take l.length) a (l.drop l.length)) : walkV v t P [] (sp0 v) l = (0, l.length, a) := by
  rw [hw, List.drop_length, List.take_length, walkV]
theorem walk_in {v : Vh} {t : List Rq} {P : Pace} (hP : PB P) (hq : ∀ q ∈ t, q.chk = 0) {pre : List (Int × Int)} {a : Sp} {s : Int × Int} (h : srvV v t P pre a s = 0) (hn : 0 ≤ a.now ∧ a.now ≤ 500000000) (hl : pre.length ≤ 16) (ha : -1000 * (pre.length : Int) ≤ acc t pre ∧ acc t pre ≤ 1000 * (pre.length : Int)) :
    (0 ≤ (goP P pre.length a (visV t s)).now ∧ (goP P pre.length a (visV t s)).now ≤ 500000000) ∧ (pre ++ [s]).length ≤ 16 ∧ (-1000 * ((pre ++ [s]).length : Int) ≤ acc t (pre ++ [s]) ∧ acc t (pre ++ [s]) ≤ 1000 * ((pre ++ [s]).length : Int)) := by
  obtain ⟨h1, h2, h3, h4⟩ := srv_bits.1 h
  obtain ⟨x, hx, hv⟩ := stB_vis h2
  rw [hv] at h4 ⊢
  have hd := dist_bd (a.px, a.py) (x.px, x.py)
  have hb := hP pre.length x (arV a x) (vis_ok hq hx) (by unfold arV; omega) h4
  obtain ⟨q, hqq, _⟩ := visO_some hx
  have hl1 := chk_ld hq q (List.mem_of_getElem? hqq)
  refine ⟨⟨hb.1, by have := hb.2; show (P pre.length x (arV a x)).1 ≤ _; omega⟩, by simp; omega, ?_⟩
  rw [acc_snoc]
  simp only [stN]
  rw [ldR_get hqq, List.length_append, List.length_singleton]
  unfold sg
  split <;> omega
theorem TripS.on {v : Vh} {vt kv : Value} {g mb : Nat} {t : List Rq} {pre : List (Int × Int)} {a : Sp} {W W' : World} (h : TripS v vt kv g mb t pre a W) (hb : Below W.heap.size W W') : TripS v vt kv g mb t pre a W' :=
  ⟨h.trip.keep hb h.trip.inside, h.fate.keep hb h.fate.inside, h.now, h.len, h.acc⟩
theorem ret_ei {a b c d : Int} (h : a = b) (h2 : c = d) : Ending.returned (.tuple #[.int .i64 a, .int .i64 c]) = .returned (.tuple #[.int .i64 b, .int .i64 d]) := by rw [h, h2]

set_option maxRecDepth 100000 in
set_option maxHeartbeats 4000000 in
theorem walk_any (v : Vh) (vl vt kv : Value) (g mb B : Nat) (P : Pace) (hPB : PB P) (l : List (Int × Int)) (t : List Rq) (w : World) (hl : l.length ≤ 1000000) (hnum : Nums l) (hq : ∀ q ∈ t, q.chk = 0) (hv : v.chk = 0) (hg : TripS v vt kv g mb t [] (sp0 v) w)
    (hL : Row B w vl l) (hT : Rqs B w vt t) (hB : B ≤ w.heap.size) (hBg : B ≤ g ∧ B ≤ mb) (hP : PassC kv l.length B w P) :
    Calls Tryd.prog 56 #[.pointer (some ⟨g, 0, none⟩), vl] w fun e w' =>
      e = .returned (.tuple #[.int .i64 (walkV v t P [] (sp0 v) l).1, .int .i64 ((walkV v t P [] (sp0 v) l).2.1 : Nat)]) ∧ ((walkV v t P [] (sp0 v) l).1 = 0 → TripS v vt kv g mb t l (walkV v t P [] (sp0 v) l).2.2 w') ∧ Two g mb w w' := by
  obtain ⟨xl, N, cap, rfl, hN, hl0, hlc1, hlc2⟩ := hL.opened
  have hgi := hg.trip.inside
  have hmi := hg.fate.inside
  have hI0 : WalkI v vt kv g mb t P l w 0 w := ⟨sp0 v, by simpa using hg, by simp, .refl _ _ _⟩
  have hN' : Hid (l.length = N) := hN
  rw [hN'.out] at hP hl
  have hP' := Lib.hid hP
  have hL' := Lib.hid hL
  have hT' := Lib.hid hT
  have hq' := Lib.hid hq
  have hnum' := Lib.hid hnum
  have hPB' := Lib.hid hPB
  clear hN hP hL hT hq hnum hPB hg hl0
  go_enter Tryd.func56, Tryd.ntmps56
  go_wp2_with fail
  go_step3
  go_wp2_with fail
  go_step3
  go_wp2
  go_loopw [4, 5, 10] (fun c u i wr => ∃ k : Nat, k ≤ N ∧ c = .int .i64 0 ∧ u = .int .i64 k ∧ i = .int .i64 k ∧ WalkI v vt kv g mb t P l w k wr) (fun _ _ i _ => N - (intOf i).toNat)
  case atStart => exact ⟨0, Nat.zero_le _, rfl, rfl, rfl, hI0⟩
  case round =>
    obtain ⟨k, hk, rfl, rfl, rfl, a, hS, hwv, hTw⟩ := hrel
    clear hI0
    by_cases hlt : k < N
    · obtain ⟨⟨s1, s2⟩, hs⟩ : ∃ s, l[k]? = some s := ⟨l[k]'(by rw [hN'.out]; exact hlt), List.getElem?_eq_getElem _⟩
      have hbw : Below B w wr := hTw.below hBg.1 hBg.2 hB
      obtain ⟨b, o, rfl, hb, c0, c1⟩ := Row.stop (hL'.out.keep hbw (Nat.le_refl _)) hs
      simp only at c0 c1
      have hlen : (l.take k).length = k := by rw [List.length_take, hN'.out]; omega
      obtain ⟨w1, hw1⟩ : ∃ w1, wr.alloc (.cells #[.int .i64 s1, .int .i64 s2] 65) = w1 := ⟨_, rfl⟩
      have hb1 : Below wr.heap.size wr w1 := by rw [← hw1]; exact (Below.refl _ _).alloc (Nat.le_refl _) _
      obtain ⟨m, hmq⟩ : ∃ m, wr.heap.size = m := ⟨_, rfl⟩
      have hX : At w1 m 65 #[.int .i64 s1, .int .i64 s2] := by rw [← hw1]; exact At.new_ _ _ _ hmq.symm
      have hS1 := hS.on hb1
      have hT1 := hTw.on hb1
      have hB1 : B ≤ w1.heap.size := by have := hT1.size; omega
      have hbw1 := hT1.below hBg.1 hBg.2 hB
      have hpre := hS.len
      rw [hlen] at hpre
      have hacc := hS.acc
      rw [hlen] at hacc
      have hsv := serve_any v vt kv g mb (l.take k).length B N P t (l.take k) a s1 s2 w1 (by omega) (by omega) (by omega) (hnum'.out _ (List.mem_of_getElem? hs)).1 (by omega) hq'.out hS.now hS1.trip hS1.fate (hT'.out.keep hbw1 (Nat.le_refl _)) hB1 hBg (hP'.out.on hbw1)
      have hin := Lib.hid (fun h => walk_in (v := v) (s := (s1, s2)) hPB'.out hq'.out h hS.now hS.len hS.acc)
      have hgo := Lib.hid (walk_step hs hwv)
      have hbad := Lib.hid (walk_bad hs hwv)
      have htk := Lib.hid (Load.take_get hs)
      rw [hlen] at hsv
      obtain ⟨E, hE⟩ : ∃ E, srvV v t P (l.take k) a (s1, s2) = E := ⟨_, rfl⟩
      rw [hE] at hsv
      have hE' := Lib.hid hE
      have hlen' := Lib.hid hlen
      have hw1' := Lib.hid hw1
      have hmq' := Lib.hid hmq
      have hX0 := hX.cell 0
      have hX1 := hX.cell 1
      simp at hX0 hX1
      clear hS hwv hTw hbw hb1 hS1 hbw1 hpre hacc hE hlen hw1 hs hX hmq
      go_upto_region 4 with fail
      simp only [hmq'.out]
      rw [hw1'.out]
      go_wp2_with fail
      refine hsv.mono ?_
      clear hsv hX0 hX1 c0 c1
      rintro e w2 ⟨rfl, hyes, hT2⟩
      have hTT := hT1.trans hT2
      cases e0 : (E == 0)
      case true =>
        obtain rfl : E = 0 := by simpa using e0
        obtain ⟨hG2, hM2⟩ := hyes rfl
        obtain ⟨i1, i2, i3⟩ := hin.out hE'.out
        have hR : WalkI v vt kv g mb t P l w (k + 1) w2 := ⟨_, ⟨by rw [htk.out, hlen'.out]; exact hG2, by rw [htk.out, List.length_append, hlen'.out]; exact hM2, i1, by rw [htk.out]; exact i2, by rw [htk.out]; exact i3⟩, hgo.out hE'.out, hTT⟩
        clear hyes hG2 hM2 i1 i2 i3 hin hgo hbad e0
        go_wp2
        go_roundw
        case rel => exact ⟨k + 1, hlt, rfl, by go_num, by go_num, hR⟩
        case measure => simp [intOf]; omega
      case false =>
        have hne : E ≠ 0 := by simpa using e0
        have hF := Lib.hid (hbad.out (by rw [hE'.out]; exact hne))
        clear hyes hin hgo hbad hne
        go_wp2
        simp only [Exit.noGoto_ret]
        refine bodyPost_ret (v := .tuple #[.int .i64 E, .int .i64 k]) (by simp [results, Tryd.results56, go_sem]) rfl ?_
        exact ⟨ret_ei (by rw [hF.out, hE'.out]) (by rw [hF.out]), fun h => (by rw [hF.out, hE'.out] at h; simp at e0; exact absurd h e0), hTT⟩
    · obtain rfl : k = N := by omega
      have hF := Lib.hid (walk_end (by rw [hN'.out]; exact hwv))
      have hS' : TripS v vt kv g mb t l a wr := by rw [← hN'.out, List.take_length] at hS; exact hS
      have hkl := Lib.hid (show ((l.length : Nat) : Int) = k by rw [hN'.out])
      clear hS hwv
      go_wp2
      simp only [Exit.noGoto_ret]
      refine bodyPost_ret (v := .tuple #[.int .i64 0, .int .i64 k]) (by simp [results, Tryd.results56, go_sem]) rfl ?_
      exact ⟨ret_ei (by rw [hF.out]) (by rw [hF.out]; exact hkl.out.symm), fun _ => (by rw [hF.out]; exact hS'), hTw⟩

end Go.Proofs.YteefkijmodcijaaDoor.Feas

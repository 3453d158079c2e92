import Derived.Test.YteefkijmodcijaaDoorPkFeasSomeLaw33

/-
  No number on the way is great, where nothing is wrong; what Times answers, by what trip goes through. No program's walk here.
-/
namespace Go.Proofs.YteefkijmodcijaaDoor.When
open Go.RowKit Go.Proofs.YteefkijmodcijaaDoor.Order Go.Proofs.YteefkijmodcijaaDoor.Place Go.Proofs.YteefkijmodcijaaDoor.Window Go.Proofs.YteefkijmodcijaaDoor.Up
set_option linter.unusedVariables false

theorem wait_bd (e l t : Int) : 0 ≤ waitV e l t ∧ waitV e l t ≤ 1048576 := by
  unfold waitV
  cases h : waitB e l t
  · rw [orNil_f]; omega
  · rw [orNil_t]
    have := (waitB_iff e l t).1 h
    omega
theorem wait_yes {e l t : Int} (h : waitB e l t = true) : waitV e l t = max t e := by unfold waitV; rw [h, orNil_t]
theorem steps_bd : ∀ (xs : List Vi) (a : Sp), 0 ≤ a.now → a.now ≤ 1049576 → (∀ x ∈ xs, 0 ≤ x.sv ∧ x.sv ≤ 1000) → ∀ (pre rest : List (Sp × Vi)) (y : Sp × Vi), stepsL a xs = pre ++ y :: rest →
    0 ≤ y.1.now ∧ y.1.now ≤ 1049576 ∧ 0 ≤ y.2.sv ∧ y.2.sv ≤ 1000
  | [], a, _, _, _, pre, rest, y, h => by cases pre <;> cases h
  | x :: xs, a, h1, h2, hx, pre, rest, y, h => by
    cases pre with
    | nil =>
      rw [stepsL, List.nil_append] at h
      injection h with h _
      subst h
      have := hx x (List.mem_cons_self ..)
      exact ⟨h1, h2, this.1, this.2⟩
    | cons z pre =>
      rw [stepsL, List.cons_append] at h
      injection h with _ h
      have hb := wait_bd x.we x.wl (arV a x)
      have hs := hx x (List.mem_cons_self ..)
      exact steps_bd xs (goV a x) (by show 0 ≤ beV a x + x.sv; unfold beV; omega) (by show beV a x + x.sv ≤ _; unfold beV; omega) (fun u hu => hx u (List.mem_cons_of_mem _ hu)) pre rest y h
theorem chk_sv {q : Rq} (h : q.chk = 0) : 0 ≤ q.sv ∧ q.sv ≤ 1000 := by
  unfold Rq.chk at h
  exact ((chk_iff ..).1 h).2.2.2
theorem veh_bd {v : Vh} (h : v.chk = 0) : 0 ≤ v.st ∧ v.st ≤ 1048576 ∧ v.st ≤ v.en ∧ v.en ≤ 1048576 := by
  unfold Vh.chk at h
  have := (veh_iff ..).1 h
  omega
theorem vis_sv {t : List Rq} (ht : ∀ q ∈ t, q.chk = 0) (s : Int × Int) : 0 ≤ (visV t s).sv ∧ (visV t s).sv ≤ 1000 := by
  cases h : visO t s with
  | none => rw [(vis_none h).1]; unfold noVi; simp
  | some x =>
    rw [(vis_some h).1]
    obtain ⟨q, hq, _, _, hsv, _⟩ := visO_some h
    rw [hsv]
    exact chk_sv (ht q (List.mem_of_getElem? hq))
theorem all_sv {v : Vh} {l : List (Int × Int)} {t : List Rq} (ht : ∀ q ∈ t, q.chk = 0) : ∀ x ∈ visL t l ++ [homeV v], 0 ≤ x.sv ∧ x.sv ≤ 1000 := by
  intro x hx
  rcases List.mem_append.1 hx with hx | hx
  · obtain ⟨s, _, rfl⟩ := List.mem_map.1 hx
    exact vis_sv ht s
  · obtain rfl := List.mem_singleton.1 hx
    unfold homeV
    simp
theorem mild_of {v : Vh} {l : List (Int × Int)} {t : List Rq} (h : wrongV v l t = 0) : Mild v l t := by
  obtain ⟨h1, h2, _, _⟩ := wrong_bits v l t h
  have hv := veh_bd h1
  intro pre rest y e _
  have hb := steps_bd _ (sp0 v) (by show 0 ≤ v.st; omega) (by show v.st ≤ _; omega) (all_sv h2) pre rest y e
  have hd := distV_bd (y.1.px, y.1.py) (y.2.px, y.2.py)
  have hw := wait_bd y.2.we y.2.wl (arV y.1 y.2)
  unfold beV arV at *
  omega

theorem tripL_eq (v : Vh) (l : List (Int × Int)) (t : List Rq) : tripL v l t = stepsL (sp0 v) (visL t l) ++ [(endA (sp0 v) (visL t l), homeV v)] := by
  unfold tripL
  rw [stepsL_append]
  rfl
theorem trip_tms (v : Vh) (l : List (Int × Int)) (t : List Rq) : tmsL (tripL v l t) = rowT v l t ++ [tmV (endA (sp0 v) (visL t l)) (homeV v)] := by
  rw [tripL_eq, tmsL_snoc]
  rfl
theorem rowT_length (v : Vh) (l : List (Int × Int)) (t : List Rq) : (rowT v l t).length = l.length := by
  unfold rowT tmsL
  rw [List.length_map, stepsL_length]
  simp [visL]
theorem trip_good {v : Vh} {l : List (Int × Int)} {t : List Rq} (h : wrongV v l t = 0) : (tripL v l t).all good = okT v l t := by
  obtain ⟨h1, _, _, _⟩ := wrong_bits v l t h
  have hv := veh_bd h1
  rw [tripL_eq, List.all_append]
  unfold okT allB
  congr 1
  show (good (endA (sp0 v) (visL t l), homeV v) && true) = _
  rw [Bool.and_true]
  show waitB 0 v.en (endT v l t) = decide (endT v l t ≤ v.en)
  rw [Bool.eq_iff_iff, waitB_iff, decide_eq_true_eq]
  omega

theorem errT_wrong {v : Vh} {l : List (Int × Int)} {t : List Rq} (h : wrongV v l t ≠ 0) : errT v l t = wrongV v l t := by unfold errT; rw [if_pos h]
theorem errT_late {v : Vh} {l : List (Int × Int)} {t : List Rq} (h : wrongV v l t = 0) (hb : okT v l t = false) : errT v l t = 9 := by unfold errT; rw [if_neg (by omega), hb]; rfl
theorem errT_ok {v : Vh} {l : List (Int × Int)} {t : List Rq} (h : wrongV v l t = 0) (hb : okT v l t = true) : errT v l t = 0 := by unfold errT; rw [if_neg (by omega), hb]; rfl
theorem errT_zero {v : Vh} {l : List (Int × Int)} {t : List Rq} (h : errT v l t = 0) : wrongV v l t = 0 ∧ okT v l t = true := by
  unfold errT at h
  split at h
  · rename_i h1; exact absurd h h1
  · rename_i h1
    split at h
    · rename_i h2; exact ⟨by omega, h2⟩
    · omega
theorem timesL_ok {v : Vh} {l : List (Int × Int)} {t : List Rq} (h : errT v l t = 0) : timesL v l t = rowT v l t := by unfold timesL; rw [if_pos h]
theorem timesL_no {v : Vh} {l : List (Int × Int)} {t : List Rq} (h : errT v l t ≠ 0) : timesL v l t = [] := by unfold timesL; rw [if_neg h]
theorem homeT_ok {v : Vh} {l : List (Int × Int)} {t : List Rq} (h : errT v l t = 0) : homeT v l t = endT v l t := by unfold homeT; rw [if_pos h]
theorem homeT_no {v : Vh} {l : List (Int × Int)} {t : List Rq} (h : errT v l t ≠ 0) : homeT v l t = 0 := by unfold homeT; rw [if_neg h]

/-- Bounds of times. -/
def TmOk (x : Tm) : Prop := (0 ≤ x.ar ∧ x.ar ≤ 3000000) ∧ (0 ≤ x.be ∧ x.be ≤ 3000000) ∧ (0 ≤ x.lv ∧ x.lv ≤ 3000000)
theorem tms_ok : ∀ (xs : List Vi) (a : Sp), 0 ≤ a.now → a.now ≤ 1049576 → (∀ x ∈ xs, 0 ≤ x.sv ∧ x.sv ≤ 1000) → (∀ x ∈ tmsL (stepsL a xs), TmOk x) ∧ 0 ≤ (endA a xs).now ∧ (endA a xs).now ≤ 1049576
  | [], a, h1, h2, _ => ⟨fun x hx => (by cases hx), h1, h2⟩
  | x :: xs, a, h1, h2, hx => by
    have hb := wait_bd x.we x.wl (arV a x)
    have hs := hx x (List.mem_cons_self ..)
    have hd := distV_bd (a.px, a.py) (x.px, x.py)
    obtain ⟨r1, r2⟩ := tms_ok xs (goV a x) (by show 0 ≤ beV a x + x.sv; unfold beV; omega) (by show beV a x + x.sv ≤ _; unfold beV; omega) (fun u hu => hx u (List.mem_cons_of_mem _ hu))
    refine ⟨fun u hu => ?_, r2⟩
    have hu : u ∈ tmV a x :: tmsL (stepsL (goV a x) xs) := hu
    rcases List.mem_cons.1 hu with rfl | hu
    · unfold TmOk tmV beV arV at *
      dsimp only
      omega
    · exact r1 u hu
theorem times_ok {v : Vh} {l : List (Int × Int)} {t : List Rq} (h : wrongV v l t = 0) : (∀ x ∈ rowT v l t, TmOk x) ∧ (0 ≤ endT v l t ∧ endT v l t ≤ 3000000) ∧ l.length ≤ 16 ∧ (0 ≤ v.st ∧ v.st ≤ 1048576) := by
  obtain ⟨h1, h2, h3, _⟩ := wrong_bits v l t h
  have hv := veh_bd h1
  have hr := tms_ok (visL t l) (sp0 v) (by show 0 ≤ v.st; omega) (by show v.st ≤ _; omega) (fun x hx => all_sv (v := v) h2 x (List.mem_append.2 (.inl hx)))
  have hd := distV_bd ((endA (sp0 v) (visL t l)).px, (endA (sp0 v) (visL t l)).py) ((homeV v).px, (homeV v).py)
  refine ⟨hr.1, ?_, ?_, hv.1, hv.2.1⟩
  · unfold endT arV
    omega
  · unfold Route.checkV at h3
    split at h3
    · omega
    · omega
theorem sums_bd : ∀ (ts : List Tm), (∀ x ∈ ts, TmOk x) → ∀ n : Int, 0 ≤ n → n ≤ 3000000 → (-3000000 * ts.length ≤ waitS ts ∧ waitS ts ≤ 3000000 * ts.length) ∧ (-3000000 * ts.length ≤ servS ts ∧ servS ts ≤ 3000000 * ts.length) ∧ (-3000000 * ts.length ≤ wayS n ts ∧ wayS n ts ≤ 3000000 * ts.length) ∧ (0 ≤ leftS n ts ∧ leftS n ts ≤ 3000000)
  | [], _, n, h1, h2 => by simp [waitS, servS, wayS, leftS]; omega
  | x :: ts, h, n, h1, h2 => by
    have hx := h x (List.mem_cons_self ..)
    have ih := sums_bd ts (fun y hy => h y (List.mem_cons_of_mem _ hy)) x.lv hx.2.2.1 hx.2.2.2
    rw [waitS_cons, servS_cons, wayS, show leftS n (x :: ts) = leftS x.lv ts from rfl]
    unfold TmOk at hx
    simp only [List.length_cons]
    omega

end Go.Proofs.YteefkijmodcijaaDoor.When

/-
  The contracts of package sched's Times and Spent.
-/
namespace Go.Proofs.YteefkijmodcijaaDoor.When
open Go.RowKit Go.Proofs.YteefkijmodcijaaDoor.Mem Go.Proofs.YteefkijmodcijaaDoor.Route
set_option linter.unusedVariables false

theorem cutTo {B : Nat} {W : World} {x : Option Addr} {N cap k m : Nat} {l : List (List Value)} (h : RowB B W (.slice x N cap) m l) (hl : l.length = N) (hk : k ≤ N) (C : Nat) (hC : k ≤ C) (hC2 : C ≤ maxLen) (hx : x = none → C = 0) : RowB B W (.slice x k C) m (l.take k) := by
  obtain ⟨x', cap', e, h1, h2, h0, h3⟩ := h
  simp only [Value.slice.injEq] at e
  obtain ⟨rfl, rfl, rfl⟩ := e
  refine ⟨x, C, by simp; omega, by simp; omega, hC2, fun hx' => ?_, fun j r hj => ?_⟩
  · have := h0 hx'
    rw [this.1]
    exact ⟨by simp, hx hx'⟩
  · refine h3 j r ?_
    rw [List.getElem?_take] at hj
    split at hj
    · exact hj
    · cases hj
theorem ret_ti {u : Value} {a b c d : Int} (h : a = b) (h2 : c = d) : Ending.returned (.tuple #[u, .int .i64 a, .int .i64 c]) = .returned (.tuple #[u, .int .i64 b, .int .i64 d]) := by rw [h, h2]
theorem ret_sp {a b c d a2 b2 c2 d2 : Int} (h : a = a2) (h2 : b = b2) (h3 : c = c2) (h4 : d = d2) : Ending.returned (.tuple #[.int .i64 a, .int .i64 b, .int .i64 c, .int .i64 d]) = .returned (.tuple #[.int .i64 a2, .int .i64 b2, .int .i64 c2, .int .i64 d2]) := by rw [h, h2, h3, h4]

set_option maxRecDepth 100000 in
set_option maxHeartbeats 4000000 in
theorem Times_all (v : Vh) (vl vt : Value) (l : List (Int × Int)) (t : List Rq) (hl : l.length ≤ 1000000) (hnum : Nums l) (w : World) (hL : Row w.heap.size w vl l) (hT : Rqs w.heap.size w vt t) :
    Calls Tryd.prog 17 #[.agg #[.int .i64 v.hx, .int .i64 v.hy, .int .i64 v.cp, .int .i64 v.st, .int .i64 v.en], vl, vt] w fun e w' =>
      (∃ u, e = .returned (.tuple #[u, .int .i64 (homeT v l t), .int .i64 (errT v l t)]) ∧ Tms w'.heap.size w' u (timesL v l t) ∧ (errT v l t ≠ 0 → u = .slice none 0 0)) ∧ Below w.heap.size w w' := by
  have hb0 : Below w.heap.size w (w.alloc (.cells #[.int .i64 v.hx, .int .i64 v.hy, .int .i64 v.cp, .int .i64 v.st, .int .i64 v.en] 34)) := (Below.refl _ _).alloc (Nat.le_refl _) _
  have hc := check_any v vl vt l t hl hnum _ (hL.on hb0) (hT.on hb0)
  have hP := At.new w 34 #[.int .i64 v.hx, .int .i64 v.hy, .int .i64 v.cp, .int .i64 v.st, .int .i64 v.en]
  obtain ⟨xl, Nl, capl, rfl, hNl, hl0, hlc1, hlc2⟩ := hL.opened
  obtain ⟨xt, Nt, capt, rfl, hNt0, htc1, htc2, ht0⟩ := hT.opened
  have hNt := Lib.hid hNt0
  unfold maxLen at hlc2 htc2
  have hL' := Lib.hid hL
  have hT' := Lib.hid hT
  have hl' := Lib.hid hl
  have hNl1 : Nl ≤ 1000000 := by rw [hNl.out] at hl; exact hl
  clear hL hT hNt0 ht0 hl hnum
  obtain ⟨E, hE⟩ : ∃ E, wrongV v l t = E := ⟨_, rfl⟩
  rw [hE] at hc
  have hE' := Lib.hid hE
  clear hE
  go_enter Tryd.func17, Tryd.ntmps17
  go_wp2_with fail
  refine hc.mono ?_
  clear hc
  rintro e w1 ⟨rfl, hb1⟩
  have hB := hb0.trans (hb1.mono hb0.size)
  have hP1 := hP.keep hb1 hP.inside
  clear hb0 hb1 hP
  cases he0 : (E == 0)
  · have he1 : (E != 0) = true := by simpa using he0
    have hw : Hid (errT v l t = E ∧ errT v l t ≠ 0) := Lib.hid (by
      have h1 : wrongV v l t ≠ 0 := by rw [hE'.out]; simpa using he0
      rw [errT_wrong h1, hE'.out]
      exact ⟨rfl, by simpa using he0⟩)
    go_wp2
    refine bodyPost_ret (v := .tuple #[.slice none 0 0, .int .i64 0, .int .i64 E]) (by simp [results, Tryd.results17, go_sem]) rfl ?_
    exact ⟨⟨_, ret_ti (homeT_no hw.out.2).symm hw.out.1.symm, by rw [timesL_no hw.out.2]; exact RowB.nil _ _ _, fun _ => rfl⟩, hB⟩
  · have he1 : (E != 0) = false := by simpa using he0
    have hz : wrongV v l t = 0 := by rw [hE'.out]; simpa using he0
    have hm := mild_of hz
    have hg := trip_good hz
    have p0 := hP1.cell 0
    have p1 := hP1.cell 1
    have p2 := hP1.cell 2
    have p3 := hP1.cell 3
    have p4 := hP1.cell 4
    have hPs := hP1.inside
    simp at p0 p1 p2 p3 p4
    have hz' := Lib.hid hz
    have hm' := Lib.hid hm
    have hg' := Lib.hid hg
    have hB' := Lib.hid hB
    have hsz : Hid (w.heap.size ≤ w1.heap.size) := Lib.hid hB.size
    clear hz hm hg hB hP1
    go_wp2_with fail
    refine (visits_any v xl xt Nl capl Nt capt _).mono ?_
    rintro e w2 ⟨rfl, hw2⟩
    have hs0 : (w1.alloc (.cells #[.int .i64 0, .int .i64 0, .int .i64 v.st, .int .i64 v.hx, .int .i64 v.hy] 85)).heap.size = w1.heap.size + 1 := by simp
    rw [hs0]
    have hS : At w2 w1.heap.size 85 #[.int .i64 0, .int .i64 0, .int .i64 v.st, .int .i64 v.hx, .int .i64 v.hy] := by rw [← hw2]; exact ((((At.new _ _ _).alloc _).alloc _).alloc _)
    have hv2 : At w2 (w1.heap.size + 1) 34 #[.int .i64 v.hx, .int .i64 v.hy, .int .i64 v.cp, .int .i64 v.st, .int .i64 v.en] := by rw [← hw2]; exact ((At.new_ _ _ _ (by simp)).alloc _).alloc _
    have hl2 : At w2 (w1.heap.size + 2) 28 #[.slice xl Nl capl] := by rw [← hw2]; exact (At.new_ _ _ _ (by simp)).alloc _
    have ht2 : At w2 (w1.heap.size + 3) 29 #[.slice xt Nt capt] := by rw [← hw2]; exact At.new_ _ _ _ (by simp)
    have hB2 : Below w1.heap.size w1 w2 := by rw [← hw2]; exact ((((Below.refl _ _).alloc (Nat.le_refl _) _).alloc (by simp) _).alloc (by simp; omega) _).alloc (by simp; omega) _
    have hBB : Below w.heap.size w w2 := hB'.out.trans (hB2.mono hsz.out)
    have htr := trip_any v l t hl'.out (.slice xl Nl capl) (.slice xt Nt capt) w1.heap.size (w1.heap.size + 2) (w1.heap.size + 3) (w1.heap.size + 1) w2 hm'.out hS
      ⟨hl2, ht2, hv2, (hL'.out.keep hBB (Nat.le_refl _)).more hsz.out, (hT'.out.keep hBB (Nat.le_refl _)).more hsz.out⟩ (by omega)
    rw [hg'.out] at htr
    clear hw2 hS hv2 hl2 ht2 hs0 p0 p1 p2 p3 p4
    go_wp2_with fail
    refine htr.mono ?_
    clear htr
    rintro e w3 ⟨⟨u, rfl, hu⟩, hb3⟩
    have hB3 : Below w.heap.size w w3 := (hB'.out.trans (hB2.mono hsz.out)).trans (hb3.mono hsz.out)
    clear hb3 hB2 hBB
    cases hok : okT v l t
    · have hw := Lib.hid (errT_late hz'.out hok)
      clear hu
      go_wp2
      refine bodyPost_ret (v := .tuple #[.slice none 0 0, .int .i64 0, .int .i64 9]) (by simp [results, Tryd.results17, go_sem]) rfl ?_
      exact ⟨⟨_, ret_ti (homeT_no (by rw [hw.out]; omega)).symm hw.out.symm, by rw [timesL_no (by rw [hw.out]; omega)]; exact RowB.nil _ _ _, fun _ => rfl⟩, hB3⟩
    · have hw := Lib.hid (errT_ok hz'.out hok)
      have hu1 := hu hok
      rw [trip_tms] at hu1
      obtain ⟨x, N, cap, rfl, hN, hc1, hc2, hx⟩ := Tms.opened hu1
      have hrl := rowT_length v l t
      have hN2 : N = Nl + 1 := by rw [← hN, List.length_append, hrl, hNl.out]; rfl
      subst hN2
      obtain ⟨g, o, rfl, hg3, cA, c1, c2⟩ := Tms.at hu1 (k := Nl) (q := tmV (endA (sp0 v) (visL t l)) (homeV v)) (by rw [List.getElem?_append_right (by rw [hrl, hNl.out]; exact Nat.le_refl _), hrl, hNl.out]; simp)
      have hfin : Tms w3.heap.size w3 (.slice (some ⟨g, o, none⟩) Nl Nl) (timesL v l t) := by
        have := cutTo (k := Nl) hu1 (by rw [List.length_map]; exact hN) (Nat.le_succ _) Nl (Nat.le_refl _) (by unfold maxLen; omega) (fun h => by cases h)
        rw [← List.map_take] at this
        rw [timesL_ok hw.out]
        have e2 : (rowT v l t ++ [tmV (endA (sp0 v) (visL t l)) (homeV v)]).take Nl = rowT v l t := by
          rw [List.take_append_of_le_length (by rw [hrl, hNl.out]; exact Nat.le_refl _), List.take_of_length_le (by rw [hrl, hNl.out]; exact Nat.le_refl _)]
        rw [e2] at this
        exact this
      have c0 : w3.cell? ⟨g, o + Nl * 3, none⟩ = some (.int .i64 (endT v l t)) := cA
      have hfin' := Lib.hid hfin
      clear hu hu1 hfin hN hrl cA c1 c2 hx
      go_wp2_with fail
      go_quiet (fail)
      go_wp2
      refine bodyPost_ret (v := .tuple #[.slice (some ⟨g, o, none⟩) Nl Nl, .int .i64 (endT v l t), .int .i64 0]) (by simp [results, Tryd.results17, go_sem]) rfl ?_
      have hB9 := Place.below_drewN hB3 nq
      exact ⟨⟨_, ret_ti (homeT_ok hw.out).symm hw.out.symm, hfin'.out, fun h => absurd hw.out h⟩, hB9⟩

theorem Times_any (v : Vh) (vl vt : Value) (l : List (Int × Int)) (t : List Rq) (hl : l.length ≤ 1000000) (hnum : Nums l) (w : World) (hL : Row w.heap.size w vl l) (hT : Rqs w.heap.size w vt t) :
    Calls Tryd.prog 17 #[.agg #[.int .i64 v.hx, .int .i64 v.hy, .int .i64 v.cp, .int .i64 v.st, .int .i64 v.en], vl, vt] w fun e w' =>
      (∃ u, e = .returned (.tuple #[u, .int .i64 (homeT v l t), .int .i64 (errT v l t)]) ∧ Tms w'.heap.size w' u (timesL v l t)) ∧ Below w.heap.size w w' :=
  (Times_all v vl vt l t hl hnum w hL hT).mono fun e w' ⟨⟨u, h1, h2, _⟩, h3⟩ => ⟨⟨u, h1, h2⟩, h3⟩
/-- Where something is wrong, the answer is the same whatever memory is. -/
theorem Times_err (v : Vh) (vl vt : Value) (l : List (Int × Int)) (t : List Rq) (hl : l.length ≤ 1000000) (hnum : Nums l) (E : Int) (hE : errT v l t = E) (h0 : E ≠ 0) (w : World) (hL : Row w.heap.size w vl l) (hT : Rqs w.heap.size w vt t) :
    Calls Tryd.prog 17 #[.agg #[.int .i64 v.hx, .int .i64 v.hy, .int .i64 v.cp, .int .i64 v.st, .int .i64 v.en], vl, vt] w fun e w' => e = .returned (.tuple #[.slice none 0 0, .int .i64 0, .int .i64 E]) ∧ Below w.heap.size w w' :=
  (Times_all v vl vt l t hl hnum w hL hT).mono fun e w' ⟨⟨u, h1, h2, h4⟩, h3⟩ => ⟨by rw [h1, h4 (by rw [hE]; exact h0), homeT_no (by rw [hE]; exact h0), hE], h3⟩

end Go.Proofs.YteefkijmodcijaaDoor.When

import Derived.Test.YthjdacbgcpldjaaDoorPkWhenTrip

/-
  The contracts of package sched's Times and Spent.
-/
namespace Go.Proofs.YthjdacbgcpldjaaDoor.When
open Go.RowKit Go.Proofs.YthjdacbgcpldjaaDoor.Mem Go.Proofs.YthjdacbgcpldjaaDoor.Route
set_option linter.unusedVariables false

theorem cutTo {B : Nat} {W : World} {x : Option Addr} {N cap k m : Nat} {l : List (List Value)} (h : RowB B W (.slice x N cap) m l) (hl : l.length = N) (hk : k ≤ N) (C : Nat) (hC : k ≤ C) (hC2 : C ≤ maxLen) (hx : x = none → C = 0) : RowB B W (.slice x k C) m (l.take k) := by
  obtain ⟨x', cap', e, h1, h2, h0, h3⟩ := h
  simp only [Value.slice.injEq] at e
  obtain ⟨rfl, rfl, rfl⟩ := e
  refine ⟨x, C, by simp; omega, by simp; omega, hC2, fun hx' => ?_, fun j r hj => ?_⟩
  · have := h0 hx'
    rw [this.1]
    exact ⟨by simp, hx hx'⟩
  · refine h3 j r ?_
    rw [List.getElem?_take] at hj
    split at hj
    · exact hj
    · cases hj
theorem ret_ti {u : Value} {a b c d : Int} (h : a = b) (h2 : c = d) : Ending.returned (.tuple #[u, .int .i64 a, .int .i64 c]) = .returned (.tuple #[u, .int .i64 b, .int .i64 d]) := by rw [h, h2]
theorem ret_sp {a b c d a2 b2 c2 d2 : Int} (h : a = a2) (h2 : b = b2) (h3 : c = c2) (h4 : d = d2) : Ending.returned (.tuple #[.int .i64 a, .int .i64 b, .int .i64 c, .int .i64 d]) = .returned (.tuple #[.int .i64 a2, .int .i64 b2, .int .i64 c2, .int .i64 d2]) := by rw [h, h2, h3, h4]

set_option maxRecDepth 100000 in
set_option maxHeartbeats 4000000 in
theorem Times_cap (v : Vh) (vl vt : Value) (l : List (Int × Int)) (t : List Rq) (hl : l.length ≤ 1000000) (hnum : Nums l) (w : World) (hL : Row w.heap.size w vl l) (hT : Rqs w.heap.size w vt t) :
    Calls Tryd.prog 18 #[.agg #[.int .i64 v.hx, .int .i64 v.hy, .int .i64 v.cp, .int .i64 v.st, .int .i64 v.en], vl, vt] w fun e w' =>
      (∃ u, e = .returned (.tuple #[u, .int .i64 (homeT v l t), .int .i64 (errT v l t)]) ∧ Tms w'.heap.size w' u (timesL v l t) ∧ (errT v l t ≠ 0 → u = .slice none 0 0) ∧ (errT v l t = 0 → ∃ x, u = .slice x l.length l.length)) ∧ Below w.heap.size w w' := by
  have hb0 : Below w.heap.size w (w.alloc (.cells #[.int .i64 v.hx, .int .i64 v.hy, .int .i64 v.cp, .int .i64 v.st, .int .i64 v.en] 28)) := (Below.refl _ _).alloc (Nat.le_refl _) _
  have hc := check_any v vl vt l t hl hnum _ (hL.on hb0) (hT.on hb0)
  have hP := At.new w 28 #[.int .i64 v.hx, .int .i64 v.hy, .int .i64 v.cp, .int .i64 v.st, .int .i64 v.en]
  obtain ⟨xl, Nl, capl, rfl, hNl, hl0, hlc1, hlc2⟩ := hL.opened
  obtain ⟨xt, Nt, capt, rfl, hNt0, htc1, htc2, ht0⟩ := hT.opened
  have hNt := Lib.hid hNt0
  unfold maxLen at hlc2 htc2
  have hL' := Lib.hid hL
  have hT' := Lib.hid hT
  have hl' := Lib.hid hl
  have hNl1 : Nl ≤ 1000000 := by rw [hNl.out] at hl; exact hl
  clear hL hT hNt0 ht0 hl hnum
  obtain ⟨E, hE⟩ : ∃ E, wrongV v l t = E := ⟨_, rfl⟩
  rw [hE] at hc
  have hE' := Lib.hid hE
  clear hE
  go_enter Tryd.func18, Tryd.ntmps18
  go_wp2_with fail
  refine hc.mono ?_
  clear hc
  rintro e w1 ⟨rfl, hb1⟩
  have hB := hb0.trans (hb1.mono hb0.size)
  have hP1 := hP.keep hb1 hP.inside
  clear hb0 hb1 hP
  cases he0 : (E == 0)
  · have he1 : (E != 0) = true := by simpa using he0
    have hw : Hid (errT v l t = E ∧ errT v l t ≠ 0) := Lib.hid (by
      have h1 : wrongV v l t ≠ 0 := by rw [hE'.out]; simpa using he0
      rw [errT_wrong h1, hE'.out]
      exact ⟨rfl, by simpa using he0⟩)
    go_wp2
    refine bodyPost_ret (v := .tuple #[.slice none 0 0, .int .i64 0, .int .i64 E]) (by simp [results, Tryd.results18, go_sem]) rfl ?_
    exact ⟨⟨_, ret_ti (homeT_no hw.out.2).symm hw.out.1.symm, by rw [timesL_no hw.out.2]; exact RowB.nil _ _ _, fun _ => rfl, fun h => absurd h hw.out.2⟩, hB⟩
  · have he1 : (E != 0) = false := by simpa using he0
    have hz : wrongV v l t = 0 := by rw [hE'.out]; simpa using he0
    have hm := mild_of hz
    have hg := trip_good hz
    have p0 := hP1.cell 0
    have p1 := hP1.cell 1
    have p2 := hP1.cell 2
    have p3 := hP1.cell 3
    have p4 := hP1.cell 4
    have hPs := hP1.inside
    simp at p0 p1 p2 p3 p4
    have hz' := Lib.hid hz
    have hm' := Lib.hid hm
    have hg' := Lib.hid hg
    have hB' := Lib.hid hB
    have hsz : Hid (w.heap.size ≤ w1.heap.size) := Lib.hid hB.size
    clear hz hm hg hB hP1
    go_wp2_with fail
    refine (visits_any v xl xt Nl capl Nt capt _).mono ?_
    rintro e w2 ⟨rfl, hw2⟩
    have hs0 : (w1.alloc (.cells #[.int .i64 0, .int .i64 0, .int .i64 v.st, .int .i64 v.hx, .int .i64 v.hy] 89)).heap.size = w1.heap.size + 1 := by simp
    rw [hs0]
    have hS : At w2 w1.heap.size 89 #[.int .i64 0, .int .i64 0, .int .i64 v.st, .int .i64 v.hx, .int .i64 v.hy] := by rw [← hw2]; exact ((((At.new _ _ _).alloc _).alloc _).alloc _)
    have hv2 : At w2 (w1.heap.size + 1) 28 #[.int .i64 v.hx, .int .i64 v.hy, .int .i64 v.cp, .int .i64 v.st, .int .i64 v.en] := by rw [← hw2]; exact ((At.new_ _ _ _ (by simp)).alloc _).alloc _
    have hl2 : At w2 (w1.heap.size + 2) 29 #[.slice xl Nl capl] := by rw [← hw2]; exact (At.new_ _ _ _ (by simp)).alloc _
    have ht2 : At w2 (w1.heap.size + 3) 30 #[.slice xt Nt capt] := by rw [← hw2]; exact At.new_ _ _ _ (by simp)
    have hB2 : Below w1.heap.size w1 w2 := by rw [← hw2]; exact ((((Below.refl _ _).alloc (Nat.le_refl _) _).alloc (by simp) _).alloc (by simp; omega) _).alloc (by simp; omega) _
    have hBB : Below w.heap.size w w2 := hB'.out.trans (hB2.mono hsz.out)
    have htr := trip_any v l t hl'.out (.slice xl Nl capl) (.slice xt Nt capt) w1.heap.size (w1.heap.size + 2) (w1.heap.size + 3) (w1.heap.size + 1) w2 hm'.out hS
      ⟨hl2, ht2, hv2, (hL'.out.keep hBB (Nat.le_refl _)).more hsz.out, (hT'.out.keep hBB (Nat.le_refl _)).more hsz.out⟩ (by omega)
    rw [hg'.out] at htr
    clear hw2 hS hv2 hl2 ht2 hs0 p0 p1 p2 p3 p4
    go_wp2_with fail
    refine htr.mono ?_
    clear htr
    rintro e w3 ⟨⟨u, rfl, hu⟩, hb3⟩
    have hB3 : Below w.heap.size w w3 := (hB'.out.trans (hB2.mono hsz.out)).trans (hb3.mono hsz.out)
    clear hb3 hB2 hBB
    cases hok : okT v l t
    · have hw := Lib.hid (errT_late hz'.out hok)
      clear hu
      go_wp2
      refine bodyPost_ret (v := .tuple #[.slice none 0 0, .int .i64 0, .int .i64 9]) (by simp [results, Tryd.results18, go_sem]) rfl ?_
      exact ⟨⟨_, ret_ti (homeT_no (by rw [hw.out]; omega)).symm hw.out.symm, by rw [timesL_no (by rw [hw.out]; omega)]; exact RowB.nil _ _ _, fun _ => rfl, fun h => absurd h (by rw [hw.out]; omega)⟩, hB3⟩
    · have hw := Lib.hid (errT_ok hz'.out hok)
      have hu1 := hu hok
      rw [trip_tms] at hu1
      obtain ⟨x, N, cap, rfl, hN, hc1, hc2, hx⟩ := Tms.opened hu1
      have hrl := rowT_length v l t
      have hN2 : N = Nl + 1 := by rw [← hN, List.length_append, hrl, hNl.out]; rfl
      subst hN2
      obtain ⟨g, o, rfl, hg3, cA, c1, c2⟩ := Tms.at hu1 (k := Nl) (q := tmV (endA (sp0 v) (visL t l)) (homeV v)) (by rw [List.getElem?_append_right (by rw [hrl, hNl.out]; exact Nat.le_refl _), hrl, hNl.out]; simp)
      have hfin : Tms w3.heap.size w3 (.slice (some ⟨g, o, none⟩) Nl Nl) (timesL v l t) := by
        have := cutTo (k := Nl) hu1 (by rw [List.length_map]; exact hN) (Nat.le_succ _) Nl (Nat.le_refl _) (by unfold maxLen; omega) (fun h => by cases h)
        rw [← List.map_take] at this
        rw [timesL_ok hw.out]
        have e2 : (rowT v l t ++ [tmV (endA (sp0 v) (visL t l)) (homeV v)]).take Nl = rowT v l t := by
          rw [List.take_append_of_le_length (by rw [hrl, hNl.out]; exact Nat.le_refl _), List.take_of_length_le (by rw [hrl, hNl.out]; exact Nat.le_refl _)]
        rw [e2] at this
        exact this
      have c0 : w3.cell? ⟨g, o + Nl * 3, none⟩ = some (.int .i64 (endT v l t)) := cA
      have hfin' := Lib.hid hfin
      clear hu hu1 hfin hN hrl cA c1 c2 hx
      go_wp2_with fail
      go_quiet (fail)
      go_wp2
      refine bodyPost_ret (v := .tuple #[.slice (some ⟨g, o, none⟩) Nl Nl, .int .i64 (endT v l t), .int .i64 0]) (by simp [results, Tryd.results18, go_sem]) rfl ?_
      have hB9 := Place.below_drewN hB3 nq
      exact ⟨⟨_, ret_ti (homeT_ok hw.out).symm hw.out.symm, hfin'.out, fun h => absurd hw.out h, fun _ => ⟨_, by rw [hNl.out]⟩⟩, hB9⟩

theorem Times_all (v : Vh) (vl vt : Value) (l : List (Int × Int)) (t : List Rq) (hl : l.length ≤ 1000000) (hnum : Nums l) (w : World) (hL : Row w.heap.size w vl l) (hT : Rqs w.heap.size w vt t) :
    Calls Tryd.prog 18 #[.agg #[.int .i64 v.hx, .int .i64 v.hy, .int .i64 v.cp, .int .i64 v.st, .int .i64 v.en], vl, vt] w fun e w' =>
      (∃ u, e = .returned (.tuple #[u, .int .i64 (homeT v l t), .int .i64 (errT v l t)]) ∧ Tms w'.heap.size w' u (timesL v l t) ∧ (errT v l t ≠ 0 → u = .slice none 0 0)) ∧ Below w.heap.size w w' :=
  (Times_cap v vl vt l t hl hnum w hL hT).mono fun e w' ⟨⟨u, h1, h2, h3, _⟩, h4⟩ => ⟨⟨u, h1, h2, h3⟩, h4⟩
theorem Times_any (v : Vh) (vl vt : Value) (l : List (Int × Int)) (t : List Rq) (hl : l.length ≤ 1000000) (hnum : Nums l) (w : World) (hL : Row w.heap.size w vl l) (hT : Rqs w.heap.size w vt t) :
    Calls Tryd.prog 18 #[.agg #[.int .i64 v.hx, .int .i64 v.hy, .int .i64 v.cp, .int .i64 v.st, .int .i64 v.en], vl, vt] w fun e w' =>
      (∃ u, e = .returned (.tuple #[u, .int .i64 (homeT v l t), .int .i64 (errT v l t)]) ∧ Tms w'.heap.size w' u (timesL v l t)) ∧ Below w.heap.size w w' :=
  (Times_all v vl vt l t hl hnum w hL hT).mono fun e w' ⟨⟨u, h1, h2, _⟩, h3⟩ => ⟨⟨u, h1, h2⟩, h3⟩
/-- Where something is wrong, the answer is the same whatever memory is. -/
theorem Times_err (v : Vh) (vl vt : Value) (l : List (Int × Int)) (t : List Rq) (hl : l.length ≤ 1000000) (hnum : Nums l) (E : Int) (hE : errT v l t = E) (h0 : E ≠ 0) (w : World) (hL : Row w.heap.size w vl l) (hT : Rqs w.heap.size w vt t) :
    Calls Tryd.prog 18 #[.agg #[.int .i64 v.hx, .int .i64 v.hy, .int .i64 v.cp, .int .i64 v.st, .int .i64 v.en], vl, vt] w fun e w' => e = .returned (.tuple #[.slice none 0 0, .int .i64 0, .int .i64 E]) ∧ Below w.heap.size w w' :=
  (Times_all v vl vt l t hl hnum w hL hT).mono fun e w' ⟨⟨u, h1, h2, h4⟩, h3⟩ => ⟨by rw [h1, h4 (by rw [hE]; exact h0), homeT_no (by rw [hE]; exact h0), hE], h3⟩

end Go.Proofs.YthjdacbgcpldjaaDoor.When

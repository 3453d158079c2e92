import Derived.Test.YthjdacbgcpldjaaDoorPkWindowFuncs2
import Derived.Test.YthjdacbgcpldjaaDoorPkWhenTrip
import Derived.Test.YthjdacbgcpldjaaDoorPkOrderChkRef

/-
  Contracts of the document's answers for window.
-/
namespace Go.Proofs.YthjdacbgcpldjaaDoor.Window
open Go.RowKit Go.Sort
open Go.Proofs.YthjdacbgcpldjaaDoor.Mem Go.Proofs.YthjdacbgcpldjaaDoor.Tail
set_option linter.unusedVariables false

theorem hasB_f {e l t : Int} (h : okB e l = false) : hasB e l t = false := by simp [hasB, h]
theorem hasB_t1 {e l t : Int} (h : okB e l = true) (h1 : ¬ e ≤ t) : hasB e l t = false := by simp [hasB, h, h1]
theorem hasB_t2 {e l t : Int} (h : okB e l = true) (h1 : e ≤ t) : hasB e l t = decide (t ≤ l) := by simp [hasB, h, h1]

theorem refHas_any (e l t : Int) (w : World) :
    Calls Tryd.prog 100 #[.agg #[.int .i64 e, .int .i64 l], .int .i64 t] w fun r w' => r = .returned (.bool (hasB e l t)) ∧ Below w.heap.size w w' := by
  have hW0 : At (w.alloc (.cells #[.int .i64 e, .int .i64 l] 58)) w.heap.size 58 #[.int .i64 e, .int .i64 l] := At.new w _ _
  have hb0 : Below w.heap.size w (w.alloc (.cells #[.int .i64 e, .int .i64 l] 58)) := (Below.refl _ _).alloc (Nat.le_refl _) _
  obtain ⟨H, hH⟩ : ∃ H, hasB e l t = H := ⟨_, rfl⟩
  rw [hH]
  cases h1 : okB e l
  · obtain rfl : false = H := (hasB_f h1).symm.trans hH
    clear hH
    go_enter Tryd.func100, Tryd.ntmps100
    go_wp2_with fail
    refine (refMay_any _ _ _).mono ?_
    rintro r w1 ⟨rfl, hb1⟩
    rw [h1]
    have hE := hb0.trans (hb1.mono hb0.size)
    go_wp2
    go_ret
    exact ⟨rfl, hE⟩
  · by_cases h2 : e ≤ t
    · obtain rfl : decide (t ≤ l) = H := (hasB_t2 h1 h2).symm.trans hH
      clear hH
      go_enter Tryd.func100, Tryd.ntmps100
      go_wp2_with fail
      generalize (w.alloc (.cells #[.int .i64 e, .int .i64 l] 58)) = w0 at *
      refine (refMay_any _ _ _).mono ?_
      rintro r w1 ⟨rfl, hb1⟩
      rw [h1]
      have hE := hb0.trans (hb1.mono hb0.size)
      have hW1 := hW0.keep hb1 hW0.inside
      clear hb1 hb0 hW0
      have c0 := hW1.cell 0
      have c1 := hW1.cell 1
      simp at c0 c1
      go_wp2
      go_ret
      exact ⟨rfl, hE⟩
    · obtain rfl : false = H := (hasB_t1 h1 h2).symm.trans hH
      clear hH
      go_enter Tryd.func100, Tryd.ntmps100
      go_wp2_with fail
      generalize (w.alloc (.cells #[.int .i64 e, .int .i64 l] 58)) = w0 at *
      refine (refMay_any _ _ _).mono ?_
      rintro r w1 ⟨rfl, hb1⟩
      rw [h1]
      have hE := hb0.trans (hb1.mono hb0.size)
      have hW1 := hW0.keep hb1 hW0.inside
      clear hb1 hb0 hW0
      have c0 := hW1.cell 0
      have c1 := hW1.cell 1
      simp at c0 c1
      go_wp2
      go_ret
      exact ⟨rfl, hE⟩

theorem refWait_any (e l t : Int) (w : World) :
    Calls Tryd.prog 77 #[.agg #[.int .i64 e, .int .i64 l], .int .i64 t] w fun r w' => r = .returned (.tuple #[.int .i64 (waitV e l t), .bool (waitB e l t)]) ∧ Below w.heap.size w w' := by
  have hb0 : Below w.heap.size w (w.alloc (.cells #[.int .i64 e, .int .i64 l] 58)) := (Below.refl _ _).alloc (Nat.le_refl _) _
  cases h1 : hasB e l (max t e)
  · have hB : waitB e l t = false := h1
    have hV : waitV e l t = 0 := by rw [waitV, hB, orNil_f]
    rw [hB, hV]
    clear hB hV
    go_enter Tryd.func77, Tryd.ntmps77
    go_wp2_with fail
    refine (refHas_any _ _ _ _).mono ?_
    rintro r w1 ⟨rfl, hb1⟩
    rw [h1]
    have hE := hb0.trans (hb1.mono hb0.size)
    go_wp2
    refine bodyPost_ret (v := .tuple #[.int .i64 _, .bool _]) (by simp [results, Tryd.results77, go_sem]; exact ⟨rfl, rfl⟩) rfl ?_
    exact ⟨rfl, hE⟩
  · have hB : waitB e l t = true := h1
    have hV : waitV e l t = max t e := by rw [waitV, hB, orNil_t]
    rw [hB, hV]
    clear hB hV
    go_enter Tryd.func77, Tryd.ntmps77
    go_wp2_with fail
    refine (refHas_any _ _ _ _).mono ?_
    rintro r w1 ⟨rfl, hb1⟩
    rw [h1]
    have hE := hb0.trans (hb1.mono hb0.size)
    go_wp2
    refine bodyPost_ret (v := .tuple #[.int .i64 _, .bool _]) (by simp [results, Tryd.results77, go_sem]; exact ⟨rfl, rfl⟩) rfl ?_
    exact ⟨rfl, hE⟩

theorem meetB_f1 {a b c d : Int} (h : okB a b = false) : meetB a b c d = false := by simp [meetB, h]
theorem meetB_f2 {a b c d : Int} (h : okB c d = false) : meetB a b c d = false := by simp [meetB, h]
theorem meetB_f3 {a b c d : Int} (h : max a c > min b d) : meetB a b c d = false := by
  have : ¬ max a c ≤ min b d := by omega
  simp only [meetB, decide_eq_false this, Bool.and_false]
theorem meetB_t {a b c d : Int} (h1 : okB a b = true) (h2 : okB c d = true) (h : ¬ max a c > min b d) : meetB a b c d = true := by
  have : max a c ≤ min b d := by omega
  simp only [meetB, h1, h2, decide_eq_true this, Bool.and_true]
theorem meet_0 {a b c d : Int} (h : meetB a b c d = false) : meetE a b c d = 0 ∧ meetL a b c d = 0 := by
  unfold meetE meetL
  rw [h]
  exact ⟨rfl, rfl⟩
theorem meet_1 {a b c d : Int} (h : meetB a b c d = true) : meetE a b c d = max a c ∧ meetL a b c d = min b d := by
  unfold meetE meetL
  rw [h]
  exact ⟨rfl, rfl⟩


theorem shiftB_f1 {e l d : Int} (h : okB e l = false) : shiftB e l d = false := by simp [shiftB, h]
theorem shiftB_f2 {e l d : Int} (h : d > 1048576) : shiftB e l d = false := by
  rw [← Bool.not_eq_true, shiftB_iff]
  omega
theorem shiftB_f3 {e l d : Int} (h : d < -1048576) : shiftB e l d = false := by
  rw [← Bool.not_eq_true, shiftB_iff]
  omega
theorem shiftB_ok {e l d : Int} (h : okB e l = true) : shiftB e l d = okB (e + d) (l + d) := by
  rw [okB_iff] at h
  rw [Bool.eq_iff_iff, shiftB_iff, okB_iff]
  omega
theorem shift_0 {e l d : Int} (h : shiftB e l d = false) : shiftE e l d = 0 ∧ shiftL e l d = 0 := by
  unfold shiftE shiftL
  rw [h]
  exact ⟨rfl, rfl⟩
theorem shift_1 {e l d : Int} (h : shiftB e l d = true) : shiftE e l d = e + d ∧ shiftL e l d = l + d := by
  unfold shiftE shiftL
  rw [h]
  exact ⟨rfl, rfl⟩


end Go.Proofs.YthjdacbgcpldjaaDoor.Window

/-
  Contracts of the document's Place, Window, Wrong and Same.
-/
namespace Go.Proofs.YthjdacbgcpldjaaDoor.When
open Go.RowKit Go.Proofs.YthjdacbgcpldjaaDoor.Mem Go.Proofs.YthjdacbgcpldjaaDoor.Route
set_option linter.unusedVariables false

set_option maxHeartbeats 1000000 in
theorem refPlace_any (s1 s2 : Int) (v : Value) (t : List Rq) (w : World) (h : Rqs w.heap.size w v t) :
    Calls Tryd.prog 74 #[.agg #[.int .i64 s1, .int .i64 s2], v] w fun e w' => e = .returned (.tuple #[.agg #[.int .i64 (visV t (s1, s2)).px, .int .i64 (visV t (s1, s2)).py], .bool (visB t (s1, s2))]) ∧ Below w.heap.size w w' := by
  obtain ⟨x, N, cap, rfl, hN, hc1, hc2, hx⟩ := h.opened
  by_cases h1 : s1 < 0
  · have ho := vis_none (visO_out (t := t) (s := (s1, s2)) (by simp [inT]; omega))
    rw [ho.1, ho.2]
    clear ho h hN hx
    go_enter Tryd.func74, Tryd.ntmps74
    go_wp2
    refine bodyPost_ret (res_pl rfl rfl rfl (x0 := .int .i64 0) (x1 := .int .i64 0) (by go_simp) (by go_simp)) rfl ?_
    exact ⟨ret_two rfl rfl rfl, by repeat (first | exact Below.refl _ _ | refine Below.alloc ?_ (by simp <;> omega) _ | refine Below.setCell ?_ (by simp <;> omega) _)⟩
  · by_cases h2 : (N : Int) ≤ s1
    · have ho := vis_none (visO_out (t := t) (s := (s1, s2)) (by simp [inT]; omega))
      rw [ho.1, ho.2]
      clear ho h hN hx
      go_enter Tryd.func74, Tryd.ntmps74
      go_wp2
      refine bodyPost_ret (res_pl rfl rfl rfl (x0 := .int .i64 0) (x1 := .int .i64 0) (by go_simp) (by go_simp)) rfl ?_
      exact ⟨ret_two rfl rfl rfl, by repeat (first | exact Below.refl _ _ | refine Below.alloc ?_ (by simp <;> omega) _ | refine Below.setCell ?_ (by simp <;> omega) _)⟩
    · have hi : inT t s1 = true := by simp [inT]; omega
      obtain ⟨q, hq, _, _⟩ := inT_get hi
      obtain ⟨k, rfl⟩ : ∃ k : Nat, s1 = k := ⟨s1.toNat, by omega⟩
      simp only [Int.toNat_natCast] at hq
      obtain ⟨g, o, rfl, hg, c0, c1, c2, c3, c4, c5, c6, c7, c8, c9⟩ := h.at hq
      have hk : k < N := by omega
      have hk2 : ((k : Int) < N) := by omega
      by_cases e0 : s2 = 0
      · have ho := vis_some (visO_pick (t := t) (s := (k, s2)) (q := q) hi (by simpa using hq) e0)
        rw [ho.1, ho.2]
        subst e0
        clear ho h hN hx hq hi
        go_enter Tryd.func74, Tryd.ntmps74
        go_wp2
        refine bodyPost_ret (res_pl rfl rfl rfl (x0 := .int .i64 q.fx) (x1 := .int .i64 q.fy) (by go_simp) (by go_simp)) rfl ?_
        exact ⟨ret_two rfl rfl rfl, by repeat (first | exact Below.refl _ _ | refine Below.alloc ?_ (by simp <;> omega) _ | refine Below.setCell ?_ (by simp <;> omega) _)⟩
      · by_cases e1 : s2 = 1
        · have ho := vis_some (visO_drop (t := t) (s := (k, s2)) (q := q) hi (by simpa using hq) e1)
          rw [ho.1, ho.2]
          subst e1
          clear ho h hN hx hq hi
          go_enter Tryd.func74, Tryd.ntmps74
          go_wp2
          refine bodyPost_ret (res_pl rfl rfl rfl (x0 := .int .i64 q.tx) (x1 := .int .i64 q.ty) (by go_simp) (by go_simp)) rfl ?_
          exact ⟨ret_two rfl rfl rfl, by repeat (first | exact Below.refl _ _ | refine Below.alloc ?_ (by simp <;> omega) _ | refine Below.setCell ?_ (by simp <;> omega) _)⟩
        · have ho := vis_none (visO_odd (t := t) (s := (k, s2)) e0 e1)
          rw [ho.1, ho.2]
          have b0 : (s2 == 0) = false := by simpa using e0
          have b1 : (s2 == 1) = false := by simpa using e1
          have b2 : (s2 != 0) = true := by simpa using e0
          have b3 : (s2 != 1) = true := by simpa using e1
          clear ho h hN hx hq hi
          go_enter Tryd.func74, Tryd.ntmps74
          go_wp2
          refine bodyPost_ret (res_pl rfl rfl rfl (x0 := .int .i64 0) (x1 := .int .i64 0) (by go_simp) (by go_simp)) rfl ?_
          exact ⟨ret_two rfl rfl rfl, by repeat (first | exact Below.refl _ _ | refine Below.alloc ?_ (by simp <;> omega) _ | refine Below.setCell ?_ (by simp <;> omega) _)⟩

set_option maxHeartbeats 1000000 in
theorem refWindow_any (s1 s2 : Int) (v : Value) (t : List Rq) (w : World) (h : Rqs w.heap.size w v t) :
    Calls Tryd.prog 75 #[.agg #[.int .i64 s1, .int .i64 s2], v] w fun e w' => e = .returned (.tuple #[.agg #[.int .i64 (visV t (s1, s2)).we, .int .i64 (visV t (s1, s2)).wl], .bool (visB t (s1, s2))]) ∧ Below w.heap.size w w' := by
  obtain ⟨x, N, cap, rfl, hN, hc1, hc2, hx⟩ := h.opened
  have hb0 : Below w.heap.size w ((w.alloc (.cells #[.int .i64 s1, .int .i64 s2] 66)).alloc (.cells #[.int .i64 0, .int .i64 0] 58)) := ((Below.refl _ _).alloc (Nat.le_refl _) _).alloc (by simp) _
  have hv := refPlace_any s1 s2 _ t _ (h.on hb0)
  obtain ⟨w0, hw0⟩ : ∃ w0, (w.alloc (.cells #[.int .i64 s1, .int .i64 s2] 66)).alloc (.cells #[.int .i64 0, .int .i64 0] 58) = w0 := ⟨_, rfl⟩
  have hS0 : At w0 w.heap.size 66 #[.int .i64 s1, .int .i64 s2] := by rw [← hw0]; exact (At.new _ _ _).alloc _
  have hR0 : At w0 (w.heap.size + 1) 58 #[.int .i64 0, .int .i64 0] := by rw [← hw0]; exact At.new_ _ _ _ (by simp)
  rw [hw0] at hv hb0
  have hT0 := h.on hb0
  have hw0' := Lib.hid hw0
  have hN' := Lib.hid hN
  clear hw0 h hN hx
  cases ho : visO t (s1, s2) with
  | none =>
    have hvn := vis_none ho
    rw [hvn.1, hvn.2] at hv ⊢
    clear hvn ho
    go_enter Tryd.func75, Tryd.ntmps75
    go_wp2_with fail
    rw [hw0'.out]
    refine hv.mono ?_
    clear hv
    rintro e w1 ⟨rfl, hb1⟩
    have hR1 := hR0.keep hb1 hR0.inside
    have hB1 := hb0.trans (hb1.mono hb0.size)
    have hlt := hR1.inside
    have z0 := hR1.cell 0
    have z1 := hR1.cell 1
    have zf := hR1.free
    simp at z0 z1
    clear hb1 hR0 hS0 hb0 hT0
    go_wp2
    refine bodyPost_ret (res_wi rfl rfl rfl (x0 := .int .i64 0) (x1 := .int .i64 0) (by go_simp) (by go_simp)) rfl ?_
    exact ⟨ret_two rfl rfl rfl, by repeat (first | exact hB1 | refine Below.alloc ?_ (by simp <;> omega) _ | refine Below.setCell ?_ (by simp <;> omega) _)⟩
  | some u =>
    have hvn := vis_some ho
    obtain ⟨q, hq, h1, h2, _, hk⟩ := visO_some ho
    rw [hvn.1, hvn.2] at hv ⊢
    clear hvn ho
    obtain ⟨k, rfl⟩ : ∃ k : Nat, s1 = k := ⟨s1.toNat, by simp only at h1; omega⟩
    simp only [Int.toNat_natCast] at hq
    have hkN : k < N := by rw [← hN'.out]; simp only at h2; omega
    have hkN2 : (k : Int) < N := by omega
    clear h1 h2
    rcases hk with ⟨e0, hu⟩ | ⟨e0, hu⟩
    · simp only at e0
      subst e0
      rw [hu] at hv ⊢
      clear hu
      go_enter Tryd.func75, Tryd.ntmps75
      go_wp2_with fail
      rw [hw0'.out]
      refine hv.mono ?_
      clear hv
      rintro e w1 ⟨rfl, hb1⟩
      obtain ⟨g, o, rfl, hg, c0, c1, c2, c3, c4, c5, c6, c7, c8, c9⟩ := (hT0.on hb1).at hq
      have hR1 := hR0.keep hb1 hR0.inside
      have hS1 := hS0.keep hb1 hS0.inside
      have hB1 := hb0.trans (hb1.mono hb0.size)
      have hlt := hR1.inside
      have hlt2 := hS1.inside
      have z0 := hR1.cell 0
      have z1 := hR1.cell 1
      have zf := hR1.free
      have y0 := hS1.cell 0
      have y1 := hS1.cell 1
      simp at z0 z1 y0 y1
      clear hb1 hR0 hS0 hb0 hT0 hq
      go_wp2
      refine bodyPost_ret (res_wi rfl rfl rfl (x0 := .int .i64 q.pe) (x1 := .int .i64 q.pl) (by go_simp) (by go_simp)) rfl ?_
      exact ⟨ret_two rfl rfl rfl, by repeat (first | exact hB1 | refine Below.alloc ?_ (by simp <;> omega) _ | refine Below.setCell ?_ (by simp <;> omega) _)⟩
    · simp only at e0
      subst e0
      rw [hu] at hv ⊢
      clear hu
      go_enter Tryd.func75, Tryd.ntmps75
      go_wp2_with fail
      rw [hw0'.out]
      refine hv.mono ?_
      clear hv
      rintro e w1 ⟨rfl, hb1⟩
      obtain ⟨g, o, rfl, hg, c0, c1, c2, c3, c4, c5, c6, c7, c8, c9⟩ := (hT0.on hb1).at hq
      have hR1 := hR0.keep hb1 hR0.inside
      have hS1 := hS0.keep hb1 hS0.inside
      have hB1 := hb0.trans (hb1.mono hb0.size)
      have hlt := hR1.inside
      have hlt2 := hS1.inside
      have z0 := hR1.cell 0
      have z1 := hR1.cell 1
      have zf := hR1.free
      have y0 := hS1.cell 0
      have y1 := hS1.cell 1
      simp at z0 z1 y0 y1
      clear hb1 hR0 hS0 hb0 hT0 hq
      go_wp2
      refine bodyPost_ret (res_wi rfl rfl rfl (x0 := .int .i64 q.de) (x1 := .int .i64 q.dl) (by go_simp) (by go_simp)) rfl ?_
      exact ⟨ret_two rfl rfl rfl, by repeat (first | exact hB1 | refine Below.alloc ?_ (by simp <;> omega) _ | refine Below.setCell ?_ (by simp <;> omega) _)⟩

end Go.Proofs.YthjdacbgcpldjaaDoor.When

/-
  The contract of the document's Wrong.
-/
namespace Go.Proofs.YthjdacbgcpldjaaDoor.When
open Go.RowKit Go.Sort Go.Proofs.YthjdacbgcpldjaaDoor.Mem Go.Proofs.YthjdacbgcpldjaaDoor.Route Go.Proofs.YthjdacbgcpldjaaDoor.Place Go.Proofs.YthjdacbgcpldjaaDoor.Window Go.Proofs.YthjdacbgcpldjaaDoor.Order
set_option linter.unusedVariables false

theorem refReq (q : Rq) (w : World) : Calls Tryd.prog 97 #[.agg #[.int .i64 q.fx, .int .i64 q.fy, .int .i64 q.tx, .int .i64 q.ty, .int .i64 q.pe, .int .i64 q.pl, .int .i64 q.de, .int .i64 q.dl, .int .i64 q.ld, .int .i64 q.sv]] w
    fun e w' => e = .returned (.int .i64 q.chk) ∧ Below w.heap.size w w' := Order.refCheck_any _ _ _ _ _ _ _ _ _ _ w
theorem refVeh (v : Vh) (w : World) : Calls Tryd.prog 71 #[.agg #[.int .i64 v.hx, .int .i64 v.hy, .int .i64 v.cp, .int .i64 v.st, .int .i64 v.en]] w
    fun e w' => e = .returned (.int .i64 v.chk) ∧ Below w.heap.size w w' := Order.refVehicle_any _ _ _ _ _ w

set_option maxRecDepth 100000 in
set_option maxHeartbeats 4000000 in
theorem refWrong_any (v : Vh) (vl vt : Value) (l : List (Int × Int)) (t : List Rq) (hl : l.length ≤ 1000000) (hnum : Nums l) (w : World) (hL : Row w.heap.size w vl l) (hT : Rqs w.heap.size w vt t) :
    Calls Tryd.prog 73 #[.agg #[.int .i64 v.hx, .int .i64 v.hy, .int .i64 v.cp, .int .i64 v.st, .int .i64 v.en], vl, vt] w fun e w' => e = .returned (.int .i64 (wrongV v l t)) ∧ Below w.heap.size w w' := by
  have hR := fun w' (hb : Below w.heap.size w w') => Route.refCheck_any vl l hl w' (hL.on hb)
  have hv := refVeh v
  have hP : At (w.alloc (.cells #[.int .i64 v.hx, .int .i64 v.hy, .int .i64 v.cp, .int .i64 v.st, .int .i64 v.en] 28)) w.heap.size 28 #[.int .i64 v.hx, .int .i64 v.hy, .int .i64 v.cp, .int .i64 v.st, .int .i64 v.en] := At.new _ _ _
  have hb0 : Below w.heap.size w (w.alloc (.cells #[.int .i64 v.hx, .int .i64 v.hy, .int .i64 v.cp, .int .i64 v.st, .int .i64 v.en] 28)) := (Below.refl _ _).alloc (Nat.le_refl _) _
  obtain ⟨xl, Nl, capl, rfl, hNl, hl0, hlc1, hlc2⟩ := hL.opened
  obtain ⟨xt, Nt, capt, rfl, hNt0, htc1, htc2, ht0⟩ := hT.opened
  have hNt := Lib.hid hNt0
  clear hNt0 ht0
  unfold maxLen at htc2 hlc2
  obtain ⟨E, hE⟩ : ∃ E, wrongV v l t = E := ⟨_, rfl⟩
  obtain ⟨C, hC⟩ : ∃ C, Route.checkV l = C := ⟨_, rfl⟩
  obtain ⟨V, hV⟩ : ∃ V, v.chk = V := ⟨_, rfl⟩
  rw [hE]
  simp only [hC] at hR
  simp only [hV] at hv
  have hL' := Lib.hid hL
  have hT' := Lib.hid hT
  have hE' := Lib.hid hE
  have hC' := Lib.hid hC
  have hV' := Lib.hid hV
  have hR' := Lib.hid hR
  clear hl hnum hL hT hE hC hV hR
  go_enter Tryd.func73, Tryd.ntmps73
  go_wp2_with fail
  refine (hv _).mono ?_
  rintro e w1 ⟨rfl, hb1⟩
  have hB := hb0.trans (hb1.mono hb0.size)
  clear hb0 hb1 hP hv
  cases hv0 : (V == 0)
  · have hv1 : (V != 0) = true := by simpa using hv0
    have hw := Lib.hid (wrong_v (l := l) (t := t) (show v.chk ≠ 0 by rw [hV'.out]; simpa using hv0))
    go_wp2
    go_ret
    exact ⟨Route.ret_int (by rw [← hE'.out, hw.out]), hB⟩
  · have hv1 : (V != 0) = false := by simpa using hv0
    have hz : Hid (v.chk = 0) := Lib.hid (by rw [hV'.out]; simpa using hv0)
    go_wp2
    go_loopw [7] (fun i wr => ∃ k : Nat, i = .int .i64 k ∧ k ≤ Nt ∧ (∀ (j : Nat) (q : Rq), j < k → t[j]? = some q → q.chk = 0) ∧ Below w.heap.size w wr) (fun i _ => Nt - (intOf i).toNat)
    case atStart => exact ⟨0, rfl, Nat.zero_le _, fun j q hj => by omega, hB⟩
    case round =>
      obtain ⟨k, rfl, hk, hall, hbw⟩ := hrel
      clear hB
      by_cases hlt : k < Nt
      · obtain ⟨q, hq⟩ : ∃ q, t[k]? = some q := ⟨t[k]'(by rw [hNt.out]; exact hlt), List.getElem?_eq_getElem _⟩
        obtain ⟨g, o, rfl, hg, c0, c1, c2, c3, c4, c5, c6, c7, c8, c9⟩ := Rqs.at (hT'.out.keep hbw (Nat.le_refl _)) hq
        have hq' := Lib.hid hq
        have hall' := Lib.hid hall
        clear hq hall
        have hbA := hbw
        go_wp2_with fail
        refine (refReq q _).mono ?_
        rintro e w3 ⟨rfl, hb3⟩
        have hB3 := hbA.trans (hb3.mono hbA.size)
        clear hb3 hbA hbw c0 c1 c2 c3 c4 c5 c6 c7 c8 c9
        obtain ⟨Q, hQ⟩ : ∃ Q, q.chk = Q := ⟨_, rfl⟩
        rw [hQ]
        have hQ' := Lib.hid hQ
        clear hQ
        cases hq0 : (Q == 0)
        · have hq1 : (Q != 0) = true := by simpa using hq0
          have hw := Lib.hid (wrong_q (v := v) (l := l) hq'.out (by rw [hQ'.out]; simpa using hq0))
          go_wp2
          go_ret
          exact ⟨Route.ret_int (by rw [← hE'.out, hw.out]), hB3⟩
        · have hq1 : (Q != 0) = false := by simpa using hq0
          have hz2 : Hid (q.chk = 0) := Lib.hid (by rw [hQ'.out]; simpa using hq0)
          go_wp2
          go_roundw
          case rel =>
            refine ⟨k + 1, by go_num, hlt, fun j r hj hr => ?_, hB3⟩
            rcases Nat.lt_or_ge j k with h | h
            · exact hall'.out j r h hr
            · obtain rfl : j = k := by omega
              rw [hq'.out] at hr
              cases hr
              exact hz2.out
          case measure => simp [intOf]; omega
      · obtain rfl : k = Nt := by omega
        have hall' : Hid (∀ (j : Nat) (q : Rq), t[j]? = some q → q.chk = 0) := Lib.hid (fun j q hq => hall j q (by have := (List.getElem?_eq_some_iff.1 hq).1; rw [hNt.out] at this; omega) hq)
        clear hall
        go_wp2_with fail
        refine (hR'.out _ hbw).mono ?_
        rintro e w3 ⟨rfl, hb3⟩
        have hB3 := hbw.trans (hb3.mono hbw.size)
        clear hb3 hbw
        cases hc0 : (C == 0)
        · have hc1 : (C != 0) = true := by simpa using hc0
          have hw := Lib.hid (wrong_r (l := l) hz.out hall'.out (by rw [hC'.out]; simpa using hc0))
          go_wp2
          go_ret
          exact ⟨Route.ret_int (by rw [← hE'.out, hw.out]), hB3⟩
        · have hc1 : (C != 0) = false := by simpa using hc0
          have hz3 : Hid (Route.checkV l = 0) := Lib.hid (by rw [hC'.out]; simpa using hc0)
          go_wp2
          go_loopw [8] (fun i wr => ∃ k : Nat, i = .int .i64 k ∧ k ≤ Nl ∧ (∀ (j : Nat) (s : Int × Int), j < k → l[j]? = some s → visB t s = true) ∧ Below w.heap.size w wr) (fun i _ => Nl - (intOf i).toNat)
          case atStart => exact ⟨0, rfl, Nat.zero_le _, fun j q hj => by omega, hB3⟩
          case round =>
            clear hB3
            obtain ⟨k2, rfl, hk2, hal2, hbw⟩ := hrel
            by_cases hlt : k2 < Nl
            · obtain ⟨s, hs⟩ : ∃ s, l[k2]? = some s := ⟨l[k2]'(by rw [hNl.out]; exact hlt), List.getElem?_eq_getElem _⟩
              obtain ⟨g, o, rfl, hg, c0, c1⟩ := Row.stop (hL'.out.keep hbw (Nat.le_refl _)) hs
              have hs' := Lib.hid hs
              have hal' := Lib.hid hal2
              clear hs hal2
              have hbA := hbw
              have hvi := refPlace_any s.1 s.2 _ t _ (hT'.out.on hbA)
              go_wp2_with fail
              refine hvi.mono ?_
              clear hvi
              rintro e w4 ⟨rfl, hb4⟩
              have hB4 := hbA.trans (hb4.mono hbA.size)
              clear hb4 hbA hbw c0 c1
              cases hvb : visB t (s.1, s.2)
              · have hw := Lib.hid (wrong_s hz.out hall'.out hs'.out hvb)
                have hB5 := hB4.alloc hB4.size (.cells #[.int .i64 (visV t (s.1, s.2)).px, .int .i64 (visV t (s.1, s.2)).py] 26)
                go_wp2
                go_ret
                exact ⟨Route.ret_int (by rw [← hE'.out, hw.out]), hB5⟩
              · have hvb' := Lib.hid hvb
                have hB5 := hB4.alloc hB4.size (.cells #[.int .i64 (visV t (s.1, s.2)).px, .int .i64 (visV t (s.1, s.2)).py] 26)
                clear hvb
                go_wp2
                go_roundw
                case rel =>
                  refine ⟨k2 + 1, by go_num, hlt, fun j r hj hr => ?_, hB5⟩
                  rcases Nat.lt_or_ge j k2 with h | h
                  · exact hal'.out j r h hr
                  · obtain rfl : j = k2 := by omega
                    rw [hs'.out] at hr
                    cases hr
                    exact hvb'.out
                case measure => simp [intOf]; omega
            · obtain rfl : k2 = Nl := by omega
              have hw := Lib.hid (wrong_no (l := l) hz.out hall'.out hz3.out (fun j s hs => hal2 j s (by have := (List.getElem?_eq_some_iff.1 hs).1; rw [hNl.out] at this; omega) hs))
              clear hal2
              go_wp2
              go_ret
              exact ⟨Route.ret_int (by rw [← hE'.out, hw.out]), hbw⟩

end Go.Proofs.YthjdacbgcpldjaaDoor.When

/-
  The contract of the document's Times.
-/
namespace Go.Proofs.YthjdacbgcpldjaaDoor.When
open Go.RowKit Go.Sort Go.Proofs.YthjdacbgcpldjaaDoor.Mem Go.Proofs.YthjdacbgcpldjaaDoor.Route
set_option linter.unusedVariables false

theorem ret_ti2 {u : Value} {a b c d : Int} (h : a = b) (h2 : c = d) : Ending.returned (.tuple #[u, .int .i64 a, .int .i64 c]) = .returned (.tuple #[u, .int .i64 b, .int .i64 d]) := by rw [h, h2]
/-- How far the first k stops bring. -/
def xsK (t : List Rq) (l : List (Int × Int)) (k : Nat) : List Vi := visL t (l.take k)
theorem xsK_snoc {t : List Rq} {l : List (Int × Int)} {k : Nat} {s : Int × Int} (h : l[k]? = some s) : xsK t l (k + 1) = xsK t l k ++ [visV t s] := by
  unfold xsK visL
  rw [show l.take (k + 1) = l.take k ++ [s] by rw [List.take_add_one, h]; rfl, List.map_append]
  rfl
theorem xsK_all (t : List Rq) (l : List (Int × Int)) : xsK t l l.length = visL t l := by unfold xsK; rw [List.take_length]
theorem allB_snoc (a : Sp) (xs : List Vi) (x : Vi) : allB a (xs ++ [x]) = (allB a xs && inB (endA a xs) x) := by
  unfold allB
  rw [stepsL_append, List.all_append]
  simp [stepsL, good]
theorem allB_bad {a : Sp} {t : List Rq} {l : List (Int × Int)} {k : Nat} {s : Int × Int} (h : l[k]? = some s) (hb : inB (endA a (xsK t l k)) (visV t s) = false) : allB a (visL t l) = false := by
  have hl : l = l.take k ++ s :: l.drop (k + 1) := by
    obtain ⟨hk, rfl⟩ := List.getElem?_eq_some_iff.1 h
    rw [← List.drop_eq_getElem_cons hk, List.take_append_drop]
  have e : visL t l = xsK t l k ++ (visV t s :: visL t (l.drop (k + 1))) := by
    conv => lhs; rw [hl]
    unfold visL xsK
    rw [List.map_append]
    rfl
  rw [e]
  unfold allB
  rw [stepsL_append, List.all_append, stepsL, List.all_cons]
  show (_ && (inB _ _ && _)) = false
  rw [hb]
  simp
theorem tmsK_snoc (a : Sp) (xs : List Vi) (x : Vi) : tmsL (stepsL a (xs ++ [x])) = tmsL (stepsL a xs) ++ [tmV (endA a xs) x] := by
  rw [stepsL_append, stepsL, stepsL, tmsL_snoc]
theorem late_no {v : Vh} {l : List (Int × Int)} {t : List Rq} (h : allB (sp0 v) (visL t l) = false) : okT v l t = false := by unfold okT; rw [h]; rfl
theorem late_end {v : Vh} {l : List (Int × Int)} {t : List Rq} (h : ¬ endT v l t ≤ v.en) : okT v l t = false := by unfold okT; rw [decide_eq_false h, Bool.and_false]
theorem ok_end {v : Vh} {l : List (Int × Int)} {t : List Rq} (h : allB (sp0 v) (visL t l) = true) (h2 : endT v l t ≤ v.en) : okT v l t = true := by unfold okT; rw [h, decide_eq_true h2]; rfl
theorem bAl {B : Nat} {w v : World} (h : Below B w v) (hB : B ≤ v.heap.size) (o : Obj) : Below B w (v.alloc o) := h.alloc hB o

theorem owns_lt {W : World} {base size k : Nat} {e : TypeId} {v : Value} {xs : List Value} (h : W.ownsRow base e size v k xs) : ∀ r, v.ownBlock = some r → r < W.heap.size := by
  obtain ⟨hl, ⟨rfl, h0⟩ | ⟨g, cap, cur, rfl, hb, hg, hc1, hc2, hs, ht⟩⟩ := h
  · intro r e; cases e
  · intro r e
    simp only [Value.ownBlock, Option.some.injEq] at e
    have := (Array.getElem?_eq_some_iff.1 hg).1
    omega
theorem At.offRow {A A' : World} {g : Nat} {t : TypeId} {cs : Array Value} {row : Option Nat} (h : At A g t cs) (hg : A.grownBy A' row) (hr : ∀ r, row = some r → g ≠ r) : At A' g t cs := (hg.block g h.inside (fun e => hr g e.symm rfl)).trans h

theorem distCall (ax ay bx by_ D : Int) (hD : Place.distV (ax, ay) (bx, by_) = D) (w : World) : Calls Tryd.prog 76 #[.agg #[.int .i64 ax, .int .i64 ay], .agg #[.int .i64 bx, .int .i64 by_]] w fun e w' => e = .returned (.int .i64 D) ∧ Below w.heap.size w w' := by
  rw [← hD]; exact Place.refDist_any _ _ _ _ _
theorem waitCall (e l t B : Int) (b : Bool) (hB : Window.waitV e l t = B) (hb : Window.waitB e l t = b) (w : World) : Calls Tryd.prog 77 #[.agg #[.int .i64 e, .int .i64 l], .int .i64 t] w fun r w' => r = .returned (.tuple #[.int .i64 B, .bool b]) ∧ Below w.heap.size w w' := by
  rw [← hB, ← hb]; exact Window.refWait_any _ _ _ _

set_option maxRecDepth 100000 in
set_option maxHeartbeats 700000 in
theorem refTimes_any (v : Vh) (vl vt : Value) (l : List (Int × Int)) (t : List Rq) (hl : l.length ≤ 1000000) (hnum : Nums l) (w : World) (hL : Row w.heap.size w vl l) (hT : Rqs w.heap.size w vt t) :
    Calls Tryd.prog 51 #[.agg #[.int .i64 v.hx, .int .i64 v.hy, .int .i64 v.cp, .int .i64 v.st, .int .i64 v.en], vl, vt] w fun e w' =>
      (∃ u, e = .returned (.tuple #[u, .int .i64 (homeT v l t), .int .i64 (errT v l t)]) ∧ Tms w'.heap.size w' u (timesL v l t)) ∧ Below w.heap.size w w' := by
  obtain ⟨i0, hi, hz0, hz1, hz2⟩ := info_parts info_time
  have hb0 : Below w.heap.size w (w.alloc (.cells #[.int .i64 v.hx, .int .i64 v.hy, .int .i64 v.cp, .int .i64 v.st, .int .i64 v.en] 28)) := (Below.refl _ _).alloc (Nat.le_refl _) _
  have hc := refWrong_any v vl vt l t hl hnum _ (hL.on hb0) (hT.on hb0)
  have hP := At.new w 28 #[.int .i64 v.hx, .int .i64 v.hy, .int .i64 v.cp, .int .i64 v.st, .int .i64 v.en]
  obtain ⟨xl, Nl, capl, rfl, hNl, hl0, hlc1, hlc2⟩ := hL.opened
  obtain ⟨xt, Nt, capt, rfl, hNt0, htc1, htc2, ht0⟩ := hT.opened
  have hNt := Lib.hid hNt0
  unfold maxLen at hlc2 htc2
  have hL' := Lib.hid hL
  have hT' := Lib.hid hT
  have hNl1 : Nl ≤ 1000000 := by rw [hNl.out] at hl; exact hl
  clear hL hT hNt0 ht0 hl hnum
  obtain ⟨E, hE⟩ : ∃ E, wrongV v l t = E := ⟨_, rfl⟩
  rw [hE] at hc
  have hE' := Lib.hid hE
  clear hE
  go_enter Tryd.func51, Tryd.ntmps51
  go_wp2_with fail
  refine hc.mono ?_
  clear hc
  rintro e w1 ⟨rfl, hb1⟩
  have hB := hb0.trans (hb1.mono hb0.size)
  have hP1 := hP.keep hb1 hP.inside
  clear hb0 hb1 hP
  cases he0 : (E == 0)
  · have he1 : (E != 0) = true := by simpa using he0
    have hw : Hid (errT v l t = E ∧ errT v l t ≠ 0) := Lib.hid (by
      have h1 : wrongV v l t ≠ 0 := by rw [hE'.out]; simpa using he0
      rw [errT_wrong h1, hE'.out]
      exact ⟨rfl, by simpa using he0⟩)
    go_wp2
    refine bodyPost_ret (v := .tuple #[.slice none 0 0, .int .i64 0, .int .i64 E]) (by simp [results, Tryd.results51, go_sem]) rfl ?_
    exact ⟨⟨_, ret_ti2 (homeT_no hw.out.2).symm hw.out.1.symm, by rw [timesL_no hw.out.2]; exact RowB.nil _ _ _⟩, hB⟩
  · have he1 : (E != 0) = false := by simpa using he0
    have hz : wrongV v l t = 0 := by rw [hE'.out]; simpa using he0
    obtain ⟨hk1, hk2, hk3, hk4⟩ := times_ok hz
    obtain ⟨hq1, hq2, hq3, hq4⟩ := wrong_bits v l t hz
    have hmild := mild_of hz
    have hstn : Hid (∀ k, k ≤ Nl → 0 ≤ (endA (sp0 v) (xsK t l k)).now ∧ (endA (sp0 v) (xsK t l k)).now ≤ 1049576) := Lib.hid (fun k hk => by
      refine (tms_ok (xsK t l k) (sp0 v) hk4.1 (by show v.st ≤ _; omega) (fun x hx => ?_)).2
      obtain ⟨s, _, rfl⟩ := List.mem_map.1 hx
      exact vis_sv hq2 s)
    have hqs : Hid (∀ (k : Nat) (s : Int × Int), l[k]? = some s → ∃ q, t[s.1.toNat]? = some q ∧ 0 ≤ s.1 ∧ s.1 < (Nt : Int) ∧ (visV t s).sv = q.sv ∧ 0 ≤ q.sv ∧ q.sv ≤ 1000) := Lib.hid (fun k s hs => by
      obtain ⟨x, hx⟩ := hq4 s (List.mem_of_getElem? hs)
      obtain ⟨q, hq, h1, h2, h3, _⟩ := visO_some hx
      have := chk_sv (hq2 q (List.mem_of_getElem? hq))
      exact ⟨q, hq, h1, by rw [← hNt.out]; exact h2, by rw [(vis_some hx).1]; exact h3, this.1, this.2⟩)
    have p0 := hP1.cell 0
    have p1 := hP1.cell 1
    have p3 := hP1.cell 3
    have hPs := hP1.inside
    simp at p0 p1 p3
    have hz' := Lib.hid hz
    have hP' := Lib.hid hP1
    have hB' := Lib.hid hB
    have hk2' := Lib.hid hk2
    clear hz hk1 hk2 hk3 hk4 hq1 hq2 hq3 hq4 hmild hP1 hB
    go_wp2_with fail
    go_region
    have hA1 : At ((w1.alloc (.cells #[.int .i64 v.hx, .int .i64 v.hy] 26)).drew) w1.heap.size 26 #[.int .i64 v.hx, .int .i64 v.hy] := (At.new _ _ _).drew
    have hBd : Below w.heap.size w ((w1.alloc (.cells #[.int .i64 v.hx, .int .i64 v.hy] 26)).drew) := Below.drew (hB'.out.alloc hB'.out.size _)
    have hPd : At ((w1.alloc (.cells #[.int .i64 v.hx, .int .i64 v.hy] 26)).drew) w.heap.size 28 #[.int .i64 v.hx, .int .i64 v.hy, .int .i64 v.cp, .int .i64 v.st, .int .i64 v.en] := (hP'.out.alloc _).drew
    have hsd : w1.heap.size < ((w1.alloc (.cells #[.int .i64 v.hx, .int .i64 v.hy] 26)).drew).heap.size := by simp
    generalize (w1.alloc (.cells #[.int .i64 v.hx, .int .i64 v.hy] 26)).drew = w2 at *
    have hwn : w.heap.size < w1.heap.size := hPs
    obtain ⟨n1, hn1⟩ : ∃ n, w1.heap.size = n := ⟨_, rfl⟩
    rw [hn1] at hA1 hsd hwn ⊢
    clear p0 p1 p3 hPs hP' hB' hn1
    go_wp2
    go_loopw [10, 12, 13] (fun u nw i wr => ∃ (k : Nat) (x : Option Addr) (cap : Nat), i = .int .i64 k ∧ k ≤ Nl ∧ u = .slice x k cap ∧ nw = .int .i64 (endA (sp0 v) (xsK t l k)).now ∧ wr.ownsRow (n1 + 1) 87 3 (.slice x k cap) k (flatT (tmsL (stepsL (sp0 v) (xsK t l k)))) ∧
        At wr n1 26 #[.int .i64 (endA (sp0 v) (xsK t l k)).px, .int .i64 (endA (sp0 v) (xsK t l k)).py] ∧ At wr w.heap.size 28 #[.int .i64 v.hx, .int .i64 v.hy, .int .i64 v.cp, .int .i64 v.st, .int .i64 v.en] ∧ allB (sp0 v) (xsK t l k) = true ∧ Below w.heap.size w wr) (fun _ _ i _ => Nl - (intOf i).toNat)
    case atStart => exact ⟨0, none, 0, rfl, Nat.zero_le _, rfl, rfl, World.ownsRow_nil _ _ _ _, hA1, hPd, rfl, hBd⟩
    case round =>
      obtain ⟨k, x, cap, rfl, hk, rfl, rfl, hown, hA, hP, hall, hbw⟩ := hrel
      clear hA1 hPd hBd hsd
      have hAs := hA.inside
      have hPs := hP.inside
      obtain ⟨hn0, hn2⟩ := hstn.out k hk
      have hall' := Lib.hid hall
      clear hall
      by_cases hlt : k < Nl
      · obtain ⟨⟨s1, s2⟩, hs⟩ : ∃ s, l[k]? = some s := ⟨l[k]'(by rw [hNl.out]; exact hlt), List.getElem?_eq_getElem _⟩
        obtain ⟨q, hq, hr1, hr2, hr3, hr4, hr5⟩ := hqs.out k (s1, s2) hs
        obtain ⟨r, rfl⟩ : ∃ r : Nat, s1 = r := ⟨s1.toNat, by simp only at hr1; omega⟩
        simp only [Int.toNat_natCast] at hq hr1 hr2
        have hrN : r < Nt := by omega
        obtain ⟨g, o, rfl, hg, c0, c1⟩ := Row.stop (hL'.out.keep hbw (Nat.le_refl _)) hs
        obtain ⟨gt, ot, rfl, hgt, d0, d1, d2, d3, d4, d5, d6, d7, d8, d9⟩ := Rqs.at (hT'.out.keep hbw (Nat.le_refl _)) hq
        simp only at c0 c1
        clear d0 d1 d2 d3 d4 d5 d6 d7 d8
        have hX1 := Lib.hid (xsK_snoc (t := t) hs)
        have hX2 : Hid (inB (endA (sp0 v) (xsK t l k)) (visV t ((r : Int), s2)) = false → okT v l t = false) := Lib.hid (fun h => late_no (allB_bad hs h))
        obtain ⟨S, hS⟩ : ∃ S, endA (sp0 v) (xsK t l k) = S := ⟨_, rfl⟩
        rw [hS] at hA hn0 hn2 hX2 ⊢
        obtain ⟨u, hu⟩ : ∃ u, visV t ((r : Int), s2) = u := ⟨_, rfl⟩
        have hcP := refPlace_any r s2 _ t wr ((hT'.out.keep hbw (Nat.le_refl _)).more hbw.size)
        rw [hu] at hcP hX1 hX2 hr3
        have hS' := Lib.hid hS
        have hu' := Lib.hid hu
        have hown' := Lib.hid hown
        have hsv1 : 0 ≤ q.sv := hr4
        have hsv2 : q.sv ≤ 1000 := hr5
        have hsvE := Lib.hid hr3
        have hgr : g < wr.heap.size := by have := hbw.size; omega
        have hgtr : gt < wr.heap.size := by have := hbw.size; omega
        have hAw := Lib.hid hA
        have hPw := Lib.hid hP
        have hbw' := Lib.hid hbw
        clear hs hq hr1 hr2 hr3 hr4 hr5 hS hu hown hA hP hbw
        go_wp2_with fail
        refine hcP.mono ?_
        clear hcP
        rintro e w3 ⟨rfl, hb3⟩
        -- Window
        have hp4 : At (w3.alloc (.cells #[.int .i64 u.px, .int .i64 u.py] 26)) w3.heap.size 26 #[.int .i64 u.px, .int .i64 u.py] := At.new _ _ _
        have hbr4 : Below wr.heap.size wr (w3.alloc (.cells #[.int .i64 u.px, .int .i64 u.py] 26)) := hb3.alloc hb3.size _
        have hcW := refWindow_any r s2 _ t _ ((hT'.out.keep (hbw'.out.trans (hbr4.mono hbw'.out.size)) (Nat.le_refl _)).more (Nat.le_trans hbw'.out.size hbr4.size))
        rw [hu'.out] at hcW
        have c0' := (hb3.cell (p := ⟨g, o + k * 2, none⟩) hgr).trans c0
        have c1' := (hb3.cell (p := ⟨g, o + k * 2 + 1, none⟩) hgr).trans c1
        have hgr3 : g < w3.heap.size := Nat.lt_of_lt_of_le hgr hb3.size
        have hs34 : wr.heap.size ≤ w3.heap.size := hb3.size
        go_wp2_with fail
        refine hcW.mono ?_
        clear hcW c0' c1'
        rintro e w5 ⟨rfl, hb5⟩
        have hbr5 := hbr4.trans (hb5.mono hbr4.size)
        have hp5 := hp4.keep hb5 hp4.inside
        have hA5 := hAw.out.keep hbr5 hAs
        have hs5 : w3.heap.size < w5.heap.size := hp5.inside
        have hsn5 : n1 < w5.heap.size := hA5.inside
        have a0 := hA5.cell 0
        have a1 := hA5.cell 1
        have q0 := hp5.cell 0
        have q1 := hp5.cell 1
        simp at a0 a1 q0 q1
        clear hb5 hbr4 hp4
        -- Dist
        obtain ⟨D, hD⟩ : ∃ D, Place.distV (S.px, S.py) (u.px, u.py) = D := ⟨_, rfl⟩
        have hDb := Order.distV_bd (S.px, S.py) (u.px, u.py)
        rw [hD] at hDb
        obtain ⟨hDb1, hDb2⟩ := hDb
        have hd6 : At (w5.alloc (.cells #[.int .i64 u.we, .int .i64 u.wl] 58)) w5.heap.size 58 #[.int .i64 u.we, .int .i64 u.wl] := At.new _ _ _
        have hcD := distCall S.px S.py u.px u.py D hD (w5.alloc (.cells #[.int .i64 u.we, .int .i64 u.wl] 58))
        have hbr6 : Below wr.heap.size wr (w5.alloc (.cells #[.int .i64 u.we, .int .i64 u.wl] 58)) := hbr5.alloc hbr5.size _
        have hp6 := hp5.alloc (.cells #[.int .i64 u.we, .int .i64 u.wl] 58)
        have hD' := Lib.hid hD
        clear hD
        go_wp2_with fail
        refine hcD.mono ?_
        clear hcD a0 a1 q0 q1
        rintro e w7 ⟨rfl, hb7⟩
        have hbr7 := hbr6.trans (hb7.mono hbr6.size)
        have hd7 := hd6.keep hb7 hd6.inside
        have hp7 := hp6.keep hb7 hp6.inside
        have hs7 : w5.heap.size < w7.heap.size := hd7.inside
        have e0 := hd7.cell 0
        have e1 := hd7.cell 1
        simp at e0 e1
        clear hb7 hbr6 hd6 hp6 hbr5 hp5 hA5
        -- Wait
        obtain ⟨B, hBv⟩ : ∃ B, Window.waitV u.we u.wl (S.now + D) = B := ⟨_, rfl⟩
        obtain ⟨b, hbv⟩ : ∃ b, Window.waitB u.we u.wl (S.now + D) = b := ⟨_, rfl⟩
        have hBb := wait_bd u.we u.wl (S.now + D)
        rw [hBv] at hBb
        obtain ⟨hBb1, hBb2⟩ := hBb
        have hcA := waitCall u.we u.wl (S.now + D) B b hBv hbv (w7.alloc (.cells #[.int .i64 (S.now + D), .int .i64 0, .int .i64 0] 87))
        have hx8 : At (w7.alloc (.cells #[.int .i64 (S.now + D), .int .i64 0, .int .i64 0] 87)) w7.heap.size 87 #[.int .i64 (S.now + D), .int .i64 0, .int .i64 0] := At.new _ _ _
        have hbr8 : Below wr.heap.size wr (w7.alloc (.cells #[.int .i64 (S.now + D), .int .i64 0, .int .i64 0] 87)) := hbr7.alloc hbr7.size _
        have hp8 := hp7.alloc (.cells #[.int .i64 (S.now + D), .int .i64 0, .int .i64 0] 87)
        have hI : Hid (inB S u = b ∧ tmV S u = ⟨S.now + D, B, B + q.sv⟩ ∧ goV S u = ⟨B + q.sv, u.px, u.py⟩) := Lib.hid (by
          unfold inB tmV goV beV arV
          rw [hD'.out, hBv, hbv, hsvE.out]
          exact ⟨rfl, rfl, rfl⟩)
        clear hBv hbv
        go_wp2_with fail
        refine hcA.mono ?_
        clear hcA e0 e1
        rintro e w9 ⟨rfl, hb9⟩
        have hbr9 := hbr8.trans (hb9.mono hbr8.size)
        have hx9 := hx8.keep hb9 hx8.inside
        have hp9 := hp8.keep hb9 hp8.inside
        have hxs : w7.heap.size < w9.heap.size := hx9.inside
        clear hb9 hbr8 hx8 hp8 hbr7 hd7 hp7
        cases b
        · have hw := Lib.hid (errT_late hz'.out (hX2.out hI.out.1))
          have hBf := Lib.hid (hbw'.out.trans (hbr9.mono hbw'.out.size))
          clear hx9 hp9 hbr9
          go_wp2
          refine bodyPost_ret (v := .tuple #[.slice none 0 0, .int .i64 0, .int .i64 9]) (by simp [results, Tryd.results51, go_sem]) rfl ?_
          exact ⟨⟨_, ret_ti2 (homeT_no (by rw [hw.out]; omega)).symm hw.out.symm, by rw [timesL_no (by rw [hw.out]; omega)]; exact RowB.nil _ _ _⟩, hBf.out⟩
        · have f0 := hx9.cell 0
          have f1 := hx9.cell 1
          have f2 := hx9.cell 2
          have ff := hx9.free
          simp at f0 f1 f2
          have c0' := (hbr9.cell (p := ⟨g, o + k * 2, none⟩) hgr).trans c0
          have dd := (hbr9.cell (p := ⟨gt, ot + r * 10 + 9, none⟩) hgtr).trans d9
          have hg9 : g < w9.heap.size := Nat.lt_of_lt_of_le hgr hbr9.size
          have hgt9 : gt < w9.heap.size := Nat.lt_of_lt_of_le hgtr hbr9.size
          have hwr9 : wr.heap.size ≤ w9.heap.size := hbr9.size
          have hgx : g < w7.heap.size := by omega
          have hgtx : gt < w7.heap.size := by omega
          have hbrX : Below wr.heap.size wr ((w9.setCell ⟨w7.heap.size, 1, none⟩ (.int .i64 B)).setCell ⟨w7.heap.size, 2, none⟩ (.int .i64 (B + q.sv))) := (hbr9.setCell (by simp; omega) _).setCell (by simp; omega) _
          have hownX := Lib.hid (owns_below hown'.out hbrX)
          have hAX := Lib.hid (hAw.out.keep hbrX hAs)
          have hPX := Lib.hid (hPw.out.keep hbrX hPs)
          have hBX := Lib.hid (hbw'.out.trans (hbrX.mono hbw'.out.size))
          have hxX : At ((w9.setCell ⟨w7.heap.size, 1, none⟩ (.int .i64 B)).setCell ⟨w7.heap.size, 2, none⟩ (.int .i64 (B + q.sv))) w7.heap.size 87 #[.int .i64 (S.now + D), .int .i64 B, .int .i64 (B + q.sv)] := by
            simpa using (hx9.put 1 (.int .i64 B)).put 2 (.int .i64 (B + q.sv))
          have hpX := Lib.hid ((hp9.far (b := w7.heap.size) (by omega) 1 (.int .i64 B)).far (b := w7.heap.size) (by omega) 2 (.int .i64 (B + q.sv)))
          have hxX' := Lib.hid hxX
          have hlo := Lib.hid (owns_lt hown'.out)
          have hro := Lib.hid (owns_row hown'.out)
          have hkl : k ≤ 1000000 := by omega
          have hEnd : Hid (endA (sp0 v) (xsK t l (k + 1)) = ⟨B + q.sv, u.px, u.py⟩) := Lib.hid (by rw [hX1.out, endA_snoc, hS'.out, hI.out.2.2])
          have hTm : Hid (flatT (tmsL (stepsL (sp0 v) (xsK t l (k + 1)))) = flatT (tmsL (stepsL (sp0 v) (xsK t l k))) ++ [.int .i64 (S.now + D), .int .i64 B, .int .i64 (B + q.sv)]) := Lib.hid (by rw [hX1.out, tmsK_snoc, flatT_snoc, hS'.out, hI.out.2.1])
          have hAl : Hid (allB (sp0 v) (xsK t l (k + 1)) = true) := Lib.hid (by rw [hX1.out, allB_snoc, hall'.out, hS'.out, hI.out.1]; rfl)
          have hw3w : w3.heap.size < w9.heap.size := by omega
          clear hx9 hp9 hbr9 c0 c1 d9 hxX hbrX
          go_upto_region 18 with (at_builtin; refine wpList_append_own _ rfl _ _ 52 rfl (n1 + 1) 87 i0 (.agg #[.int .i64 0, .int .i64 0, .int .i64 0]) 3 24 Tryd.underlying52 hi hz0 hz1 hz2 rfl (by decide) _ _ _ rfl (hownX.out.alloc _) ⟨w9.heap.size, 0, none⟩ 1 1 [.int .i64 (S.now + D), .int .i64 B, .int .i64 (B + q.sv)] rfl rfl (World.news_of_block (cs := #[.int .i64 (S.now + D), .int .i64 B, .int .i64 (B + q.sv)]) (t := 87) (fr := (0, 0)) (by simpa using heap_alloc_new ((w9.setCell ⟨w7.heap.size, 1, none⟩ (.int .i64 B)).setCell ⟨w7.heap.size, 2, none⟩ (.int .i64 (B + q.sv))) _)) (by simp [Value.oneCell']) (by unfold maxLen; omega) (by omega) (by simp; omega) ?_; intro v7 w10 hown7 hgrow7 hnil7; obtain ⟨x7, c7, rfl, _, _⟩ := owns_slice hown7)
          have hAt := At.offRow (hAX.out.alloc _) hgrow7 (fun r e => by have := hro.out r e; omega)
          have hPt := Lib.hid (At.offRow (hPX.out.alloc _) hgrow7 (fun r e => by have := hro.out r e; omega))
          have hxt := At.offRow (hxX'.out.alloc _) hgrow7 (fun r e => by have := hlo.out r e; omega)
          have hpt := At.offRow (hpX.out.alloc _) hgrow7 (fun r e => by have := hlo.out r e; omega)
          have hBt := Lib.hid ((hBX.out.alloc hBX.out.size _).grown hgrow7 (Nat.le_trans hBX.out.size (by simp)) (fun r e => by have := hro.out r e; omega))
          have z0 := hpt.cell 0
          have z1 := hpt.cell 1
          have z2 := hxt.cell 2
          have y0 := hAt.cell 0
          have y1 := hAt.cell 1
          have yf := hAt.free
          simp at z0 z1 z2 y0 y1
          have hsz1 : n1 < w10.heap.size := hAt.inside
          have hAt' := Lib.hid hAt
          have hown7' := Lib.hid hown7
          clear hAt hxt hpt hgrow7 hown7 hnil7 f0 f1 f2 ff
          go_region
          go_wp2
          go_roundw
          case rel =>
            refine ⟨k + 1, x7, c7, by go_num, hlt, rfl, ?_, ?_, ?_, ?_, hAl.out, ?_⟩
            · rw [hEnd.out]
            · rw [hTm.out]
              exact owns_far (owns_far hown7'.out (by omega) _ _) (by omega) _ _
            · rw [hEnd.out]
              exact put2 hAt'.out
            · exact (hPt.out.far (by omega) _ _).far (by omega) _ _
            · exact Below.drew ((hBt.out.setCell (by simp; omega) _).setCell (by simp; omega) _)
          case measure => simp [intOf]; omega
      · obtain rfl : k = Nl := by omega
        have hXa : Hid (xsK t l k = visL t l) := Lib.hid (by rw [← hNl.out]; exact xsK_all t l)
        obtain ⟨S, hS⟩ : ∃ S, endA (sp0 v) (xsK t l k) = S := ⟨_, rfl⟩
        rw [hS] at hA hn0 hn2 ⊢
        obtain ⟨D, hD⟩ : ∃ D, Place.distV (S.px, S.py) (v.hx, v.hy) = D := ⟨_, rfl⟩
        have hDb := Order.distV_bd (S.px, S.py) (v.hx, v.hy)
        rw [hD] at hDb
        obtain ⟨hDb1, hDb2⟩ := hDb
        have hcD := distCall S.px S.py v.hx v.hy D hD wr
        have hEn : Hid (endT v l t = S.now + D) := Lib.hid (by
          unfold endT arV
          rw [← hXa.out, hS]
          show S.now + Place.distV (S.px, S.py) (v.hx, v.hy) = _
          rw [hD])
        have hall2 : Hid (allB (sp0 v) (visL t l) = true) := Lib.hid (by rw [← hXa.out]; exact hall'.out)
        have hrow : Hid (Tms wr.heap.size wr (.slice x k cap) (rowT v l t)) := Lib.hid (by
          unfold rowT
          rw [← hXa.out]
          refine Tms.of_owns hown ?_ (Nat.le_refl _)
          unfold tmsL
          rw [List.length_map, stepsL_length]
          unfold xsK visL
          rw [List.length_map, List.length_take, hNl.out]
          omega)
        have a0 := hA.cell 0
        have a1 := hA.cell 1
        have p0 := hP.cell 0
        have p1 := hP.cell 1
        have p4 := hP.cell 4
        simp at a0 a1 p0 p1 p4
        have hbw' := Lib.hid hbw
        clear hS hD hA hown hP hbw
        go_wp2_with fail
        refine hcD.mono ?_
        clear hcD a0 a1 p0 p1
        rintro e w3 ⟨rfl, hb3⟩
        have p4' := (hb3.cell (p := ⟨w.heap.size, 4, none⟩) hPs).trans p4
        have hs3 : w.heap.size < w3.heap.size := Nat.lt_of_lt_of_le hPs hb3.size
        have hB3 := Lib.hid (hbw'.out.trans (hb3.mono hbw'.out.size))
        have hrow3 : Hid (Tms w3.heap.size w3 (.slice x k cap) (rowT v l t)) := Lib.hid (hrow.out.on hb3)
        clear hb3 p4
        by_cases hle : S.now + D ≤ v.en
        · have hw := Lib.hid (errT_ok hz'.out (ok_end hall2.out (by rw [hEn.out]; exact hle)))
          go_wp2
          refine bodyPost_ret (v := .tuple #[.slice x k cap, .int .i64 (S.now + D), .int .i64 0]) (by simp [results, Tryd.results51, go_sem]) rfl ?_
          exact ⟨⟨_, ret_ti2 (by rw [homeT_ok hw.out, hEn.out]) hw.out.symm, by rw [timesL_ok hw.out]; exact hrow3.out⟩, hB3.out⟩
        · have hw := Lib.hid (errT_late hz'.out (late_end (by rw [hEn.out]; exact hle)))
          go_wp2
          refine bodyPost_ret (v := .tuple #[.slice none 0 0, .int .i64 0, .int .i64 9]) (by simp [results, Tryd.results51, go_sem]) rfl ?_
          exact ⟨⟨_, ret_ti2 (homeT_no (by rw [hw.out]; omega)).symm hw.out.symm, by rw [timesL_no (by rw [hw.out]; omega)]; exact RowB.nil _ _ _⟩, hB3.out⟩

end Go.Proofs.YthjdacbgcpldjaaDoor.When

import Derived.Test.YteclpblfleakhaaGreatDoorPkOrderChkRef
import Derived.Test.YteclpblfleakhaaGreatDoorPkSlackPushMath

namespace Go.Proofs.YteclpblfleakhaaGreatDoor.Window
open Go.RowKit Go.Sort
open Go.Proofs.YteclpblfleakhaaGreatDoor.Mem Go.Proofs.YteclpblfleakhaaGreatDoor.Tail
set_option linter.unusedVariables false
theorem hasB_f {e l t : Int} (h : okB e l = false) : hasB e l t = false := by simp [hasB, h]
theorem hasB_t1 {e l t : Int} (h : okB e l = true) (h1 : ¬ e ≤ t) : hasB e l t = false := by simp [hasB, h, h1]
theorem hasB_t2 {e l t : Int} (h : okB e l = true) (h1 : e ≤ t) : hasB e l t = decide (t ≤ l) := by simp [hasB, h, h1]
theorem refHas_any (e l t : Int) (w : World) :
 Calls Tryz.prog 86 #[.agg #[.int .i64 e, .int .i64 l], .int .i64 t] w fun r w' => r = .returned (.bool (hasB e l t)) ∧ Below w.heap.size w w' := by
 have hW0 : At (w.alloc (.cells #[.int .i64 e, .int .i64 l] 41)) w.heap.size 41 #[.int .i64 e, .int .i64 l] := At.new w _ _
 have hb0 : Below w.heap.size w (w.alloc (.cells #[.int .i64 e, .int .i64 l] 41)) := (Below.refl _ _).alloc (Nat.le_refl _) _
 obtain ⟨H, hH⟩ : ∃ H, hasB e l t = H := ⟨_, rfl⟩
 rw [hH]
 cases h1 : okB e l
 · obtain rfl : false = H := (hasB_f h1).symm.trans hH
   clear hH
   go_enter Tryz.func86, Tryz.ntmps86
   go_wp2_with fail
   refine (refMay_any _ _ _).mono ?_
   rintro r w1 ⟨rfl, hb1⟩
   rw [h1]
   have hE := hb0.trans (hb1.mono hb0.size)
   go_wp2
   go_ret
   exact ⟨rfl, hE⟩
 · by_cases h2 : e ≤ t
   · obtain rfl : decide (t ≤ l) = H := (hasB_t2 h1 h2).symm.trans hH
     clear hH
     go_enter Tryz.func86, Tryz.ntmps86
     go_wp2_with fail
     generalize (w.alloc (.cells #[.int .i64 e, .int .i64 l] 41)) = w0 at *
     refine (refMay_any _ _ _).mono ?_
     rintro r w1 ⟨rfl, hb1⟩
     rw [h1]
     have hE := hb0.trans (hb1.mono hb0.size)
     have hW1 := hW0.keep hb1 hW0.inside
     clear hb1 hb0 hW0
     have c0 := hW1.cell 0
     have c1 := hW1.cell 1
     simp at c0 c1
     go_wp2
     go_ret
     exact ⟨rfl, hE⟩
   · obtain rfl : false = H := (hasB_t1 h1 h2).symm.trans hH
     clear hH
     go_enter Tryz.func86, Tryz.ntmps86
     go_wp2_with fail
     generalize (w.alloc (.cells #[.int .i64 e, .int .i64 l] 41)) = w0 at *
     refine (refMay_any _ _ _).mono ?_
     rintro r w1 ⟨rfl, hb1⟩
     rw [h1]
     have hE := hb0.trans (hb1.mono hb0.size)
     have hW1 := hW0.keep hb1 hW0.inside
     clear hb1 hb0 hW0
     have c0 := hW1.cell 0
     have c1 := hW1.cell 1
     simp at c0 c1
     go_wp2
     go_ret
     exact ⟨rfl, hE⟩
theorem refWait_any (e l t : Int) (w : World) :
 Calls Tryz.prog 67 #[.agg #[.int .i64 e, .int .i64 l], .int .i64 t] w fun r w' => r = .returned (.tuple #[.int .i64 (waitV e l t), .bool (waitB e l t)]) ∧ Below w.heap.size w w' := by
 have hb0 : Below w.heap.size w (w.alloc (.cells #[.int .i64 e, .int .i64 l] 41)) := (Below.refl _ _).alloc (Nat.le_refl _) _
 cases h1 : hasB e l (max t e)
 · have hB : waitB e l t = false := h1
   have hV : waitV e l t = 0 := by rw [waitV, hB, orNil_f]
   rw [hB, hV]
   clear hB hV
   go_enter Tryz.func67, Tryz.ntmps67
   go_wp2_with fail
   refine (refHas_any _ _ _ _).mono ?_
   rintro r w1 ⟨rfl, hb1⟩
   rw [h1]
   have hE := hb0.trans (hb1.mono hb0.size)
   go_wp2
   refine bodyPost_ret (v := .tuple #[.int .i64 _, .bool _]) (by simp [results, Tryz.results67, go_sem]; exact ⟨rfl, rfl⟩) rfl ?_
   exact ⟨rfl, hE⟩
 · have hB : waitB e l t = true := h1
   have hV : waitV e l t = max t e := by rw [waitV, hB, orNil_t]
   rw [hB, hV]
   clear hB hV
   go_enter Tryz.func67, Tryz.ntmps67
   go_wp2_with fail
   refine (refHas_any _ _ _ _).mono ?_
   rintro r w1 ⟨rfl, hb1⟩
   rw [h1]
   have hE := hb0.trans (hb1.mono hb0.size)
   go_wp2
   refine bodyPost_ret (v := .tuple #[.int .i64 _, .bool _]) (by simp [results, Tryz.results67, go_sem]; exact ⟨rfl, rfl⟩) rfl ?_
   exact ⟨rfl, hE⟩
end Go.Proofs.YteclpblfleakhaaGreatDoor.Window
namespace Go.Proofs.YteclpblfleakhaaGreatDoor.When
open Go.RowKit Go.Proofs.YteclpblfleakhaaGreatDoor.Mem Go.Proofs.YteclpblfleakhaaGreatDoor.Route
set_option linter.unusedVariables false
set_option maxHeartbeats 1000000 in
theorem refPlace_any (s1 s2 : Int) (v : Value) (t : List Rq) (w : World) (h : Rqs w.heap.size w v t) :
 Calls Tryz.prog 64 #[.agg #[.int .i64 s1, .int .i64 s2], v] w fun e w' => e = .returned (.tuple #[.agg #[.int .i64 (visV t (s1, s2)).px, .int .i64 (visV t (s1, s2)).py], .bool (visB t (s1, s2))]) ∧ Below w.heap.size w w' := by
 obtain ⟨x, N, cap, rfl, hN, hc1, hc2, hx⟩ := h.opened
 by_cases h1 : s1 < 0
 · have ho := vis_none (visO_out (t := t) (s := (s1, s2)) (by simp [inT]; omega))
   rw [ho.1, ho.2]
   clear ho h hN hx
   go_enter Tryz.func64, Tryz.ntmps64
   go_wp2
   refine bodyPost_ret (res_pl rfl rfl rfl (x0 := .int .i64 0) (x1 := .int .i64 0) (by go_simp) (by go_simp)) rfl ?_
   exact ⟨ret_two rfl rfl rfl, by repeat (first | exact Below.refl _ _ | refine Below.alloc ?_ (by simp <;> omega) _ | refine Below.setCell ?_ (by simp <;> omega) _)⟩
 · by_cases h2 : (N : Int) ≤ s1
   · have ho := vis_none (visO_out (t := t) (s := (s1, s2)) (by simp [inT]; omega))
     rw [ho.1, ho.2]
     clear ho h hN hx
     go_enter Tryz.func64, Tryz.ntmps64
     go_wp2
     refine bodyPost_ret (res_pl rfl rfl rfl (x0 := .int .i64 0) (x1 := .int .i64 0) (by go_simp) (by go_simp)) rfl ?_
     exact ⟨ret_two rfl rfl rfl, by repeat (first | exact Below.refl _ _ | refine Below.alloc ?_ (by simp <;> omega) _ | refine Below.setCell ?_ (by simp <;> omega) _)⟩
   · have hi : inT t s1 = true := by simp [inT]; omega
     obtain ⟨q, hq, _, _⟩ := inT_get hi
     obtain ⟨k, rfl⟩ : ∃ k : Nat, s1 = k := ⟨s1.toNat, by omega⟩
     simp only [Int.toNat_natCast] at hq
     obtain ⟨g, o, rfl, hg, c0, c1, c2, c3, c4, c5, c6, c7, c8, c9⟩ := h.at hq
     have hk : k < N := by omega
     have hk2 : ((k : Int) < N) := by omega
     by_cases e0 : s2 = 0
     · have ho := vis_some (visO_pick (t := t) (s := (k, s2)) (q := q) hi (by simpa using hq) e0)
       rw [ho.1, ho.2]
       subst e0
       clear ho h hN hx hq hi
       go_enter Tryz.func64, Tryz.ntmps64
       go_wp2
       refine bodyPost_ret (res_pl rfl rfl rfl (x0 := .int .i64 q.fx) (x1 := .int .i64 q.fy) (by go_simp) (by go_simp)) rfl ?_
       exact ⟨ret_two rfl rfl rfl, by repeat (first | exact Below.refl _ _ | refine Below.alloc ?_ (by simp <;> omega) _ | refine Below.setCell ?_ (by simp <;> omega) _)⟩
     · by_cases e1 : s2 = 1
       · have ho := vis_some (visO_drop (t := t) (s := (k, s2)) (q := q) hi (by simpa using hq) e1)
         rw [ho.1, ho.2]
         subst e1
         clear ho h hN hx hq hi
         go_enter Tryz.func64, Tryz.ntmps64
         go_wp2
         refine bodyPost_ret (res_pl rfl rfl rfl (x0 := .int .i64 q.tx) (x1 := .int .i64 q.ty) (by go_simp) (by go_simp)) rfl ?_
         exact ⟨ret_two rfl rfl rfl, by repeat (first | exact Below.refl _ _ | refine Below.alloc ?_ (by simp <;> omega) _ | refine Below.setCell ?_ (by simp <;> omega) _)⟩
       · have ho := vis_none (visO_odd (t := t) (s := (k, s2)) e0 e1)
         rw [ho.1, ho.2]
         have b0 : (s2 == 0) = false := by simpa using e0
         have b1 : (s2 == 1) = false := by simpa using e1
         have b2 : (s2 != 0) = true := by simpa using e0
         have b3 : (s2 != 1) = true := by simpa using e1
         clear ho h hN hx hq hi
         go_enter Tryz.func64, Tryz.ntmps64
         go_wp2
         refine bodyPost_ret (res_pl rfl rfl rfl (x0 := .int .i64 0) (x1 := .int .i64 0) (by go_simp) (by go_simp)) rfl ?_
         exact ⟨ret_two rfl rfl rfl, by repeat (first | exact Below.refl _ _ | refine Below.alloc ?_ (by simp <;> omega) _ | refine Below.setCell ?_ (by simp <;> omega) _)⟩
set_option maxHeartbeats 1000000 in
theorem refWindow_any (s1 s2 : Int) (v : Value) (t : List Rq) (w : World) (h : Rqs w.heap.size w v t) :
 Calls Tryz.prog 65 #[.agg #[.int .i64 s1, .int .i64 s2], v] w fun e w' => e = .returned (.tuple #[.agg #[.int .i64 (visV t (s1, s2)).we, .int .i64 (visV t (s1, s2)).wl], .bool (visB t (s1, s2))]) ∧ Below w.heap.size w w' := by
 obtain ⟨x, N, cap, rfl, hN, hc1, hc2, hx⟩ := h.opened
 have hb0 : Below w.heap.size w ((w.alloc (.cells #[.int .i64 s1, .int .i64 s2] 82)).alloc (.cells #[.int .i64 0, .int .i64 0] 41)) := ((Below.refl _ _).alloc (Nat.le_refl _) _).alloc (by simp) _
 have hv := refPlace_any s1 s2 _ t _ (h.on hb0)
 obtain ⟨w0, hw0⟩ : ∃ w0, (w.alloc (.cells #[.int .i64 s1, .int .i64 s2] 82)).alloc (.cells #[.int .i64 0, .int .i64 0] 41) = w0 := ⟨_, rfl⟩
 have hS0 : At w0 w.heap.size 82 #[.int .i64 s1, .int .i64 s2] := by rw [← hw0]; exact (At.new _ _ _).alloc _
 have hR0 : At w0 (w.heap.size + 1) 41 #[.int .i64 0, .int .i64 0] := by rw [← hw0]; exact At.new_ _ _ _ (by simp)
 rw [hw0] at hv hb0
 have hT0 := h.on hb0
 have hw0' := Lib.hid hw0
 have hN' := Lib.hid hN
 clear hw0 h hN hx
 cases ho : visO t (s1, s2) with
 | none =>
  have hvn := vis_none ho
  rw [hvn.1, hvn.2] at hv ⊢
  clear hvn ho
  go_enter Tryz.func65, Tryz.ntmps65
  go_wp2_with fail
  rw [hw0'.out]
  refine hv.mono ?_
  clear hv
  rintro e w1 ⟨rfl, hb1⟩
  have hR1 := hR0.keep hb1 hR0.inside
  have hB1 := hb0.trans (hb1.mono hb0.size)
  have hlt := hR1.inside
  have z0 := hR1.cell 0
  have z1 := hR1.cell 1
  have zf := hR1.free
  simp at z0 z1
  clear hb1 hR0 hS0 hb0 hT0
  go_wp2
  refine bodyPost_ret (res_wi rfl rfl rfl (x0 := .int .i64 0) (x1 := .int .i64 0) (by go_simp) (by go_simp)) rfl ?_
  exact ⟨ret_two rfl rfl rfl, by repeat (first | exact hB1 | refine Below.alloc ?_ (by simp <;> omega) _ | refine Below.setCell ?_ (by simp <;> omega) _)⟩
 | some u =>
  have hvn := vis_some ho
  obtain ⟨q, hq, h1, h2, _, hk⟩ := visO_some ho
  rw [hvn.1, hvn.2] at hv ⊢
  clear hvn ho
  obtain ⟨k, rfl⟩ : ∃ k : Nat, s1 = k := ⟨s1.toNat, by simp only at h1; omega⟩
  simp only [Int.toNat_natCast] at hq
  have hkN : k < N := by rw [← hN'.out]; simp only at h2; omega
  have hkN2 : (k : Int) < N := by omega
  clear h1 h2
  rcases hk with ⟨e0, hu⟩ | ⟨e0, hu⟩
  · simp only at e0
    subst e0
    rw [hu] at hv ⊢
    clear hu
    go_enter Tryz.func65, Tryz.ntmps65
    go_wp2_with fail
    rw [hw0'.out]
    refine hv.mono ?_
    clear hv
    rintro e w1 ⟨rfl, hb1⟩
    obtain ⟨g, o, rfl, hg, c0, c1, c2, c3, c4, c5, c6, c7, c8, c9⟩ := (hT0.on hb1).at hq
    have hR1 := hR0.keep hb1 hR0.inside
    have hS1 := hS0.keep hb1 hS0.inside
    have hB1 := hb0.trans (hb1.mono hb0.size)
    have hlt := hR1.inside
    have hlt2 := hS1.inside
    have z0 := hR1.cell 0
    have z1 := hR1.cell 1
    have zf := hR1.free
    have y0 := hS1.cell 0
    have y1 := hS1.cell 1
    simp at z0 z1 y0 y1
    clear hb1 hR0 hS0 hb0 hT0 hq
    go_wp2
    refine bodyPost_ret (res_wi rfl rfl rfl (x0 := .int .i64 q.pe) (x1 := .int .i64 q.pl) (by go_simp) (by go_simp)) rfl ?_
    exact ⟨ret_two rfl rfl rfl, by repeat (first | exact hB1 | refine Below.alloc ?_ (by simp <;> omega) _ | refine Below.setCell ?_ (by simp <;> omega) _)⟩
  · simp only at e0
    subst e0
    rw [hu] at hv ⊢
    clear hu
    go_enter Tryz.func65, Tryz.ntmps65
    go_wp2_with fail
    rw [hw0'.out]
    refine hv.mono ?_
    clear hv
    rintro e w1 ⟨rfl, hb1⟩
    obtain ⟨g, o, rfl, hg, c0, c1, c2, c3, c4, c5, c6, c7, c8, c9⟩ := (hT0.on hb1).at hq
    have hR1 := hR0.keep hb1 hR0.inside
    have hS1 := hS0.keep hb1 hS0.inside
    have hB1 := hb0.trans (hb1.mono hb0.size)
    have hlt := hR1.inside
    have hlt2 := hS1.inside
    have z0 := hR1.cell 0
    have z1 := hR1.cell 1
    have zf := hR1.free
    have y0 := hS1.cell 0
    have y1 := hS1.cell 1
    simp at z0 z1 y0 y1
    clear hb1 hR0 hS0 hb0 hT0 hq
    go_wp2
    refine bodyPost_ret (res_wi rfl rfl rfl (x0 := .int .i64 q.de) (x1 := .int .i64 q.dl) (by go_simp) (by go_simp)) rfl ?_
    exact ⟨ret_two rfl rfl rfl, by repeat (first | exact hB1 | refine Below.alloc ?_ (by simp <;> omega) _ | refine Below.setCell ?_ (by simp <;> omega) _)⟩
end Go.Proofs.YteclpblfleakhaaGreatDoor.When
namespace Go.Proofs.YteclpblfleakhaaGreatDoor.When
open Go.RowKit Go.Sort Go.Proofs.YteclpblfleakhaaGreatDoor.Mem Go.Proofs.YteclpblfleakhaaGreatDoor.Route Go.Proofs.YteclpblfleakhaaGreatDoor.Place Go.Proofs.YteclpblfleakhaaGreatDoor.Window Go.Proofs.YteclpblfleakhaaGreatDoor.Order
set_option linter.unusedVariables false
theorem refReq (q : Rq) (w : World) : Calls Tryz.prog 69 #[.agg #[.int .i64 q.fx, .int .i64 q.fy, .int .i64 q.tx, .int .i64 q.ty, .int .i64 q.pe, .int .i64 q.pl, .int .i64 q.de, .int .i64 q.dl, .int .i64 q.ld, .int .i64 q.sv]] w
 fun e w' => e = .returned (.int .i64 q.chk) ∧ Below w.heap.size w w' := Order.refCheck_any _ _ _ _ _ _ _ _ _ _ w
theorem refVeh (v : Vh) (w : World) : Calls Tryz.prog 68 #[.agg #[.int .i64 v.hx, .int .i64 v.hy, .int .i64 v.cp, .int .i64 v.st, .int .i64 v.en]] w
 fun e w' => e = .returned (.int .i64 v.chk) ∧ Below w.heap.size w w' := Order.refVehicle_any _ _ _ _ _ w
set_option maxRecDepth 100000 in
set_option maxHeartbeats 4000000 in
theorem refWrong_any (v : Vh) (vl vt : Value) (l : List (Int × Int)) (t : List Rq) (hl : l.length ≤ 1000000) (hnum : Nums l) (w : World) (hL : Row w.heap.size w vl l) (hT : Rqs w.heap.size w vt t) :
 Calls Tryz.prog 63 #[.agg #[.int .i64 v.hx, .int .i64 v.hy, .int .i64 v.cp, .int .i64 v.st, .int .i64 v.en], vl, vt] w fun e w' => e = .returned (.int .i64 (wrongV v l t)) ∧ Below w.heap.size w w' := by
 have hR := fun w' (hb : Below w.heap.size w w') => Route.refCheck_any vl l hl w' (hL.on hb)
 have hv := refVeh v
 have hP : At (w.alloc (.cells #[.int .i64 v.hx, .int .i64 v.hy, .int .i64 v.cp, .int .i64 v.st, .int .i64 v.en] 32)) w.heap.size 32 #[.int .i64 v.hx, .int .i64 v.hy, .int .i64 v.cp, .int .i64 v.st, .int .i64 v.en] := At.new _ _ _
 have hb0 : Below w.heap.size w (w.alloc (.cells #[.int .i64 v.hx, .int .i64 v.hy, .int .i64 v.cp, .int .i64 v.st, .int .i64 v.en] 32)) := (Below.refl _ _).alloc (Nat.le_refl _) _
 obtain ⟨xl, Nl, capl, rfl, hNl, hl0, hlc1, hlc2⟩ := hL.opened
 obtain ⟨xt, Nt, capt, rfl, hNt0, htc1, htc2, ht0⟩ := hT.opened
 have hNt := Lib.hid hNt0
 clear hNt0 ht0
 unfold maxLen at htc2 hlc2
 obtain ⟨E, hE⟩ : ∃ E, wrongV v l t = E := ⟨_, rfl⟩
 obtain ⟨C, hC⟩ : ∃ C, Route.checkV l = C := ⟨_, rfl⟩
 obtain ⟨V, hV⟩ : ∃ V, v.chk = V := ⟨_, rfl⟩
 rw [hE]
 simp only [hC] at hR
 simp only [hV] at hv
 have hL' := Lib.hid hL
 have hT' := Lib.hid hT
 have hE' := Lib.hid hE
 have hC' := Lib.hid hC
 have hV' := Lib.hid hV
 have hR' := Lib.hid hR
 clear hl hnum hL hT hE hC hV hR
 go_enter Tryz.func63, Tryz.ntmps63
 go_wp2_with fail
 refine (hv _).mono ?_
 rintro e w1 ⟨rfl, hb1⟩
 have hB := hb0.trans (hb1.mono hb0.size)
 clear hb0 hb1 hP hv
 cases hv0 : (V == 0)
 · have hv1 : (V != 0) = true := by simpa using hv0
   have hw := Lib.hid (wrong_v (l := l) (t := t) (show v.chk ≠ 0 by rw [hV'.out]; simpa using hv0))
   go_wp2
   go_ret
   exact ⟨Route.ret_int (by rw [← hE'.out, hw.out]), hB⟩
 · have hv1 : (V != 0) = false := by simpa using hv0
   have hz : Hid (v.chk = 0) := Lib.hid (by rw [hV'.out]; simpa using hv0)
   go_wp2
   go_loopw [7] (fun i wr => ∃ k : Nat, i = .int .i64 k ∧ k ≤ Nt ∧ (∀ (j : Nat) (q : Rq), j < k → t[j]? = some q → q.chk = 0) ∧ Below w.heap.size w wr) (fun i _ => Nt - (intOf i).toNat)
   case atStart => exact ⟨0, rfl, Nat.zero_le _, fun j q hj => by omega, hB⟩
   case round =>
    obtain ⟨k, rfl, hk, hall, hbw⟩ := hrel
    clear hB
    by_cases hlt : k < Nt
    · obtain ⟨q, hq⟩ : ∃ q, t[k]? = some q := ⟨t[k]'(by rw [hNt.out]; exact hlt), List.getElem?_eq_getElem _⟩
      obtain ⟨g, o, rfl, hg, c0, c1, c2, c3, c4, c5, c6, c7, c8, c9⟩ := Rqs.at (hT'.out.keep hbw (Nat.le_refl _)) hq
      have hq' := Lib.hid hq
      have hall' := Lib.hid hall
      clear hq hall
      have hbA := hbw
      go_wp2_with fail
      refine (refReq q _).mono ?_
      rintro e w3 ⟨rfl, hb3⟩
      have hB3 := hbA.trans (hb3.mono hbA.size)
      clear hb3 hbA hbw c0 c1 c2 c3 c4 c5 c6 c7 c8 c9
      obtain ⟨Q, hQ⟩ : ∃ Q, q.chk = Q := ⟨_, rfl⟩
      rw [hQ]
      have hQ' := Lib.hid hQ
      clear hQ
      cases hq0 : (Q == 0)
      · have hq1 : (Q != 0) = true := by simpa using hq0
        have hw := Lib.hid (wrong_q (v := v) (l := l) hq'.out (by rw [hQ'.out]; simpa using hq0))
        go_wp2
        go_ret
        exact ⟨Route.ret_int (by rw [← hE'.out, hw.out]), hB3⟩
      · have hq1 : (Q != 0) = false := by simpa using hq0
        have hz2 : Hid (q.chk = 0) := Lib.hid (by rw [hQ'.out]; simpa using hq0)
        go_wp2
        go_roundw
        case rel =>
         refine ⟨k + 1, by go_num, hlt, fun j r hj hr => ?_, hB3⟩
         rcases Nat.lt_or_ge j k with h | h
         · exact hall'.out j r h hr
         · obtain rfl : j = k := by omega
           rw [hq'.out] at hr
           cases hr
           exact hz2.out
        case measure => simp [intOf]; omega
    · obtain rfl : k = Nt := by omega
      have hall' : Hid (∀ (j : Nat) (q : Rq), t[j]? = some q → q.chk = 0) := Lib.hid (fun j q hq => hall j q (by have := (List.getElem?_eq_some_iff.1 hq).1; rw [hNt.out] at this; omega) hq)
      clear hall
      go_wp2_with fail
      refine (hR'.out _ hbw).mono ?_
      rintro e w3 ⟨rfl, hb3⟩
      have hB3 := hbw.trans (hb3.mono hbw.size)
      clear hb3 hbw
      cases hc0 : (C == 0)
      · have hc1 : (C != 0) = true := by simpa using hc0
        have hw := Lib.hid (wrong_r (l := l) hz.out hall'.out (by rw [hC'.out]; simpa using hc0))
        go_wp2
        go_ret
        exact ⟨Route.ret_int (by rw [← hE'.out, hw.out]), hB3⟩
      · have hc1 : (C != 0) = false := by simpa using hc0
        have hz3 : Hid (Route.checkV l = 0) := Lib.hid (by rw [hC'.out]; simpa using hc0)
        go_wp2
        go_loopw [8] (fun i wr => ∃ k : Nat, i = .int .i64 k ∧ k ≤ Nl ∧ (∀ (j : Nat) (s : Int × Int), j < k → l[j]? = some s → visB t s = true) ∧ Below w.heap.size w wr) (fun i _ => Nl - (intOf i).toNat)
        case atStart => exact ⟨0, rfl, Nat.zero_le _, fun j q hj => by omega, hB3⟩
        case round =>
         clear hB3
         obtain ⟨k2, rfl, hk2, hal2, hbw⟩ := hrel
         by_cases hlt : k2 < Nl
         · obtain ⟨s, hs⟩ : ∃ s, l[k2]? = some s := ⟨l[k2]'(by rw [hNl.out]; exact hlt), List.getElem?_eq_getElem _⟩
           obtain ⟨g, o, rfl, hg, c0, c1⟩ := Row.stop (hL'.out.keep hbw (Nat.le_refl _)) hs
           have hs' := Lib.hid hs
           have hal' := Lib.hid hal2
           clear hs hal2
           have hbA := hbw
           have hvi := refPlace_any s.1 s.2 _ t _ (hT'.out.on hbA)
           go_wp2_with fail
           refine hvi.mono ?_
           clear hvi
           rintro e w4 ⟨rfl, hb4⟩
           have hB4 := hbA.trans (hb4.mono hbA.size)
           clear hb4 hbA hbw c0 c1
           cases hvb : visB t (s.1, s.2)
           · have hw := Lib.hid (wrong_s hz.out hall'.out hs'.out hvb)
             have hB5 := hB4.alloc hB4.size (.cells #[.int .i64 (visV t (s.1, s.2)).px, .int .i64 (visV t (s.1, s.2)).py] 30)
             go_wp2
             go_ret
             exact ⟨Route.ret_int (by rw [← hE'.out, hw.out]), hB5⟩
           · have hvb' := Lib.hid hvb
             have hB5 := hB4.alloc hB4.size (.cells #[.int .i64 (visV t (s.1, s.2)).px, .int .i64 (visV t (s.1, s.2)).py] 30)
             clear hvb
             go_wp2
             go_roundw
             case rel =>
              refine ⟨k2 + 1, by go_num, hlt, fun j r hj hr => ?_, hB5⟩
              rcases Nat.lt_or_ge j k2 with h | h
              · exact hal'.out j r h hr
              · obtain rfl : j = k2 := by omega
                rw [hs'.out] at hr
                cases hr
                exact hvb'.out
             case measure => simp [intOf]; omega
         · obtain rfl : k2 = Nl := by omega
           have hw := Lib.hid (wrong_no (l := l) hz.out hall'.out hz3.out (fun j s hs => hal2 j s (by have := (List.getElem?_eq_some_iff.1 hs).1; rw [hNl.out] at this; omega) hs))
           clear hal2
           go_wp2
           go_ret
           exact ⟨Route.ret_int (by rw [← hE'.out, hw.out]), hbw⟩
end Go.Proofs.YteclpblfleakhaaGreatDoor.When
namespace Go.Proofs.YteclpblfleakhaaGreatDoor.Slack
open Go.RowKit Go.Sort Go.Proofs.YteclpblfleakhaaGreatDoor.Mem Go.Proofs.YteclpblfleakhaaGreatDoor.Route Go.Proofs.YteclpblfleakhaaGreatDoor.When Go.Proofs.YteclpblfleakhaaGreatDoor.Tail
set_option linter.unusedVariables false
theorem owns_lt {W : World} {base size k : Nat} {e : TypeId} {v : Value} {xs : List Value} (h : W.ownsRow base e size v k xs) : ∀ r, v.ownBlock = some r → r < W.heap.size := fun r e => (World.ownsRow.lt h r e).2
theorem At.offRow {A A' : World} {g : Nat} {t : TypeId} {cs : Array Value} {row : Option Nat} (h : At A g t cs) (hg : A.grownBy A' row) (hr : ∀ r, row = some r → g ≠ r) : At A' g t cs := (hg.block g h.inside (fun e => hr g e.symm rfl)).trans h
end Go.Proofs.YteclpblfleakhaaGreatDoor.Slack
namespace Go.Proofs.YteclpblfleakhaaGreatDoor.Load
open Go.RowKit Go.Sort Go.Proofs.YteclpblfleakhaaGreatDoor.Mem Go.Proofs.YteclpblfleakhaaGreatDoor.Route Go.Proofs.YteclpblfleakhaaGreatDoor.When
set_option linter.unusedVariables false
theorem refReq (q : Rq) (w : World) : Calls Tryz.prog 69 #[.agg #[.int .i64 q.fx, .int .i64 q.fy, .int .i64 q.tx, .int .i64 q.ty, .int .i64 q.pe, .int .i64 q.pl, .int .i64 q.de, .int .i64 q.dl, .int .i64 q.ld, .int .i64 q.sv]] w
 fun e w' => e = .returned (.int .i64 q.chk) ∧ Below w.heap.size w w' := Order.refCheck_any _ _ _ _ _ _ _ _ _ _ w
theorem refVeh (v : Vh) (w : World) : Calls Tryz.prog 68 #[.agg #[.int .i64 v.hx, .int .i64 v.hy, .int .i64 v.cp, .int .i64 v.st, .int .i64 v.en]] w
 fun e w' => e = .returned (.int .i64 v.chk) ∧ Below w.heap.size w w' := Order.refVehicle_any _ _ _ _ _ w
theorem Ints.plain {B : Nat} {W : World} {v : Value} {l : List Int} (h : Ints B W v l) : Plain v := by
 obtain ⟨x, cap, rfl, h1, h2, h0, h3⟩ := h
 cases x with
 | none =>
  have := h0 rfl
  rw [this.1, this.2]
  exact .inl rfl
 | some a => exact .inr ⟨_, _, _, rfl⟩
theorem Ints.flat {B : Nat} {W : World} {b : Addr} {N cap : Nat} {l : List Int} (h : Ints B W (.slice (some b) N cap) l) : ∀ j u, (flatI l)[j]? = some u → W.cell? (b.add j) = some u := by
 intro j u hj
 obtain ⟨i, k, r, e, hr, hu⟩ := flat_of (m := 1) (by decide) (fun r hr => by obtain ⟨s, _, rfl⟩ := List.mem_map.1 hr; rfl) j u hj
 obtain ⟨g, o, hx, hg, hc⟩ := RowB.row h hr
 cases hx
 have := hc k u hu
 rw [add_at, e, show o + (i * 1 + k) = o + i * 1 + k by omega]
 exact this
theorem take_at {α : Type} {l : List α} {K j : Nat} (h : j < K) : (l.take K)[j]? = l[j]? := List.getElem?_take_of_lt h
end Go.Proofs.YteclpblfleakhaaGreatDoor.Load

import Derived.Test.YteclpblfleakhaaGreatDoorPkWhenAt
import Derived.Test.YteclpblfleakhaaGreatDoorPkPlaceMay

namespace Go.Proofs.YteclpblfleakhaaGreatDoor.Order
open Go.RowKit Go.Sort Go.Proofs.YteclpblfleakhaaGreatDoor.Mem Go.Proofs.YteclpblfleakhaaGreatDoor.Place Go.Proofs.YteclpblfleakhaaGreatDoor.Window Go.Proofs.YteclpblfleakhaaGreatDoor.Tail
set_option linter.unusedVariables false
theorem ret_int {k : IntKind} {a b : Int} (h : a = b) : Ending.returned (.int k a) = .returned (.int k b) := by rw [h]
theorem ret_bool {a b : Bool} (h : a = b) : Ending.returned (.bool a) = .returned (.bool b) := by rw [h]
theorem btw_no1 {n a b : Int} (h : ¬ n ≥ a) : false = btwB n a b := by simp [btwB]; omega
theorem btw_yes1 {n a b : Int} (h : n ≥ a) : decide (n ≤ b) = btwB n a b := by simp [btwB]; omega
theorem between_any (n a b : Int) (w : World) :
 Calls Tryz.prog 51 #[.int .i64 n, .int .i64 a, .int .i64 b] w fun r w' => r = .returned (.bool (btwB n a b)) ∧ w = w' := by
 by_cases h1 : n ≥ a
 · have hm := Lib.hid (btw_yes1 (b := b) h1)
   go_enter Tryz.func51, Tryz.ntmps51
   go_wp2
   go_ret
   exact ⟨ret_bool hm.out, rfl⟩
 · have hm := Lib.hid (btw_no1 (b := b) h1)
   go_enter Tryz.func51, Tryz.ntmps51
   go_wp2
   go_ret
   exact ⟨ret_bool hm.out, rfl⟩
theorem firstFault_any (b0 b1 b2 : Bool) (e0 e1 e2 : Int) (g : Nat) (w : World) (h : At w g 131 #[.bool b0, .int .i64 e0, .bool b1, .int .i64 e1, .bool b2, .int .i64 e2]) :
 Calls Tryz.prog 49 #[.slice (some ⟨g, 0, none⟩) 3 3] w fun r w' => r = .returned (.int .i64 (ff b0 b1 b2 e0 e1 e2)) ∧ Below w.heap.size w w' := by
 have hg := h.inside
 have c0 := h.cell 0
 have c1 := h.cell 1
 have c2 := h.cell 2
 have c3 := h.cell 3
 have c4 := h.cell 4
 have c5 := h.cell 5
 simp at c0 c1 c2 c3 c4 c5
 cases b0
 · go_enter Tryz.func49, Tryz.ntmps49
   go_wp2_with fail
   refine wp_loop_rounds 4 ?_
   rw [rounds_succ]
   go_wp2
   go_ret
   exact ⟨ret_int rfl, by repeat (first | exact Below.refl _ _ | refine Below.alloc ?_ (by simp <;> omega) _ | refine Below.setCell ?_ (by simp <;> omega) _)⟩
 cases b1
 · go_enter Tryz.func49, Tryz.ntmps49
   go_wp2_with fail
   refine wp_loop_rounds 4 ?_
   rw [rounds_succ]
   go_wp2
   rw [rounds_succ]
   go_wp2
   go_ret
   exact ⟨ret_int rfl, by repeat (first | exact Below.refl _ _ | refine Below.alloc ?_ (by simp <;> omega) _ | refine Below.setCell ?_ (by simp <;> omega) _)⟩
 cases b2
 · go_enter Tryz.func49, Tryz.ntmps49
   go_wp2_with fail
   refine wp_loop_rounds 4 ?_
   rw [rounds_succ]
   go_wp2
   rw [rounds_succ]
   go_wp2
   rw [rounds_succ]
   go_wp2
   go_ret
   exact ⟨ret_int rfl, by repeat (first | exact Below.refl _ _ | refine Below.alloc ?_ (by simp <;> omega) _ | refine Below.setCell ?_ (by simp <;> omega) _)⟩
 · go_enter Tryz.func49, Tryz.ntmps49
   go_wp2_with fail
   refine wp_loop_rounds 4 ?_
   rw [rounds_succ]
   go_wp2
   rw [rounds_succ]
   go_wp2
   rw [rounds_succ]
   go_wp2
   rw [rounds_succ]
   go_wp2
   go_ret
   exact ⟨ret_int rfl, by repeat (first | exact Below.refl _ _ | refine Below.alloc ?_ (by simp <;> omega) _ | refine Below.setCell ?_ (by simp <;> omega) _)⟩
theorem Between_any (n a b : Int) (w : World) :
 Calls Tryz.prog 51 #[.int .i64 n, .int .i64 a, .int .i64 b] w fun r w' => r = .returned (.bool (btwB n a b)) ∧ Below w.heap.size w w' :=
 (between_any n a b w).mono fun r w' ⟨h1, h2⟩ => ⟨h1, by subst h2; exact Below.refl _ _⟩
set_option maxHeartbeats 4000000 in
theorem Check_any (fx fy tx ty pe pl de dl ld sv : Int) (w : World) :
 Calls Tryz.prog 32 #[.agg #[.int .i64 fx, .int .i64 fy, .int .i64 tx, .int .i64 ty, .int .i64 pe, .int .i64 pl, .int .i64 de, .int .i64 dl, .int .i64 ld, .int .i64 sv]] w fun r w' => r = .returned (.int .i64 (chk fx fy tx ty pe pl de dl ld sv)) ∧ Below w.heap.size w w' := by
 have hP0 : At (w.alloc (.cells #[.int .i64 fx, .int .i64 fy, .int .i64 tx, .int .i64 ty, .int .i64 pe, .int .i64 pl, .int .i64 de, .int .i64 dl, .int .i64 ld, .int .i64 sv] 43)) w.heap.size 43 #[.int .i64 fx, .int .i64 fy, .int .i64 tx, .int .i64 ty, .int .i64 pe, .int .i64 pl, .int .i64 de, .int .i64 dl, .int .i64 ld, .int .i64 sv] := At.new w _ _
 have hb0 : Below w.heap.size w (w.alloc (.cells #[.int .i64 fx, .int .i64 fy, .int .i64 tx, .int .i64 ty, .int .i64 pe, .int .i64 pl, .int .i64 de, .int .i64 dl, .int .i64 ld, .int .i64 sv] 43)) := (Below.refl _ _).alloc (Nat.le_refl _) _
 obtain ⟨b1, h1⟩ : ∃ b, mayB (fx, fy) = b := ⟨_, rfl⟩
 obtain ⟨b2, h2⟩ : ∃ b, okB pe pl = b := ⟨_, rfl⟩
 obtain ⟨b3, h3⟩ : ∃ b, btwB ld 1 1000 = b := ⟨_, rfl⟩
 have hE : chk fx fy tx ty pe pl de dl ld sv = ff (b1 && mayB (tx, ty)) (b2 && okB de dl) (b3 && btwB sv 0 1000) 4 5 6 := by unfold chk; rw [h1, h2, h3]
 rw [hE]
 clear hE
 obtain ⟨b4, h4⟩ : ∃ b, mayB (tx, ty) = b := ⟨_, rfl⟩
 obtain ⟨b5, h5⟩ : ∃ b, okB de dl = b := ⟨_, rfl⟩
 obtain ⟨b6, h6⟩ : ∃ b, btwB sv 0 1000 = b := ⟨_, rfl⟩
 rw [h4, h5, h6]
 have cF : ∀ w, Calls Tryz.prog 50 #[.agg #[.int .i64 fx, .int .i64 fy]] w fun e w' => e = .returned (.bool b1) ∧ Below w.heap.size w w' := fun w => by rw [← h1]; exact Place.May_any _ _ w
 have cT : ∀ w, Calls Tryz.prog 50 #[.agg #[.int .i64 tx, .int .i64 ty]] w fun e w' => e = .returned (.bool b4) ∧ Below w.heap.size w w' := fun w => by rw [← h4]; exact Place.May_any _ _ w
 have cP : ∀ w, Calls Tryz.prog 52 #[.agg #[.int .i64 pe, .int .i64 pl]] w fun e w' => e = .returned (.bool b2) ∧ Below w.heap.size w w' := fun w => by rw [← h2]; exact Window.May_any _ _ w
 have cD : ∀ w, Calls Tryz.prog 52 #[.agg #[.int .i64 de, .int .i64 dl]] w fun e w' => e = .returned (.bool b5) ∧ Below w.heap.size w w' := fun w => by rw [← h5]; exact Window.May_any _ _ w
 have cL : ∀ w, Calls Tryz.prog 51 #[.int .i64 ld, .int .i64 1, .int .i64 1000] w fun e w' => e = .returned (.bool b3) ∧ Below w.heap.size w w' := fun w => by rw [← h3]; exact Between_any _ _ _ w
 have cS : ∀ w, Calls Tryz.prog 51 #[.int .i64 sv, .int .i64 0, .int .i64 1000] w fun e w' => e = .returned (.bool b6) ∧ Below w.heap.size w w' := fun w => by rw [← h6]; exact Between_any _ _ _ w
 clear h1 h2 h3 h4 h5 h6
 go_enter Tryz.func32, Tryz.ntmps32
 go_wp2_with fail
 generalize (w.alloc (.cells #[.int .i64 fx, .int .i64 fy, .int .i64 tx, .int .i64 ty, .int .i64 pe, .int .i64 pl, .int .i64 de, .int .i64 dl, .int .i64 ld, .int .i64 sv] 43)) = w0 at *
 have c0 := hP0.cell 0
 have c1 := hP0.cell 1
 have c2 := hP0.cell 2
 have c3 := hP0.cell 3
 have c4 := hP0.cell 4
 have c5 := hP0.cell 5
 have c6 := hP0.cell 6
 have c7 := hP0.cell 7
 have c8 := hP0.cell 8
 have c9 := hP0.cell 9
 simp at c0 c1 c2 c3 c4 c5 c6 c7 c8 c9
 have kc0 := cell_regrown c0
 have kc1 := cell_regrown c1
 have kc2 := cell_regrown c2
 have kc3 := cell_regrown c3
 have kc4 := cell_regrown c4
 have kc5 := cell_regrown c5
 have kc6 := cell_regrown c6
 have kc7 := cell_regrown c7
 have kc8 := cell_regrown c8
 have kc9 := cell_regrown c9
 have kF := fun d os => Calls.regrown_of (cF (grow (redrawn w0 d) os))
 have kT := fun d os => Calls.regrown_of (cT (grow (redrawn w0 d) os))
 have kP := fun d os => Calls.regrown_of (cP (grow (redrawn w0 d) os))
 have kD := fun d os => Calls.regrown_of (cD (grow (redrawn w0 d) os))
 have kL := fun d os => Calls.regrown_of (cL (grow (redrawn w0 d) os))
 have kS := fun d os => Calls.regrown_of (cS (grow (redrawn w0 d) os))
 clear cF cT cP cD cL cS
 refine wp_region_below_tail 27 (by kernel_rfl) (by kernel_rfl) (by kernel_rfl) ?_
 simp only [List.take_succ_cons, List.take_zero, List.drop_succ_cons, List.drop_zero]
 cases b1 <;> cases b2 <;> cases b3
 all_goals
  repeat (go_big_quiet_step (first | with_reducible exact kF _ _ | with_reducible exact kT _ _ | with_reducible exact kP _ _ | with_reducible exact kD _ _ | with_reducible exact kL _ _ | with_reducible exact kS _ _))
  refine wpQuiet_nil ?_
  intro _ hw'
  obtain ⟨⟨dq, osq⟩, hw''⟩ := hw'
  subst hw''
  have hB := hb0.trans ((below_regrown w0 dq osq).mono hb0.size)
  generalize grow (redrawn w0 dq) osq = w2 at *
  clear kF kT kP kD kL kS kc0 kc1 kc2 kc3 kc4 kc5 kc6 kc7 kc8 kc9 c0 c1 c2 c3 c4 c5 c6 c7 c8 c9 hP0 hb0
  go_wp2_with fail
  refine (firstFault_any _ _ _ 4 5 6 _ _ (At.new _ _ _)).mono ?_
  rintro e w3 ⟨rfl, hb3⟩
  have hE := (hB.alloc hB.size _).trans (hb3.mono (by simp; have := hB.size; omega))
  clear hb3 hB
  go_wp2
  go_ret
  exact ⟨ret_int (by simp), hE⟩
set_option maxHeartbeats 4000000 in
theorem Vehicle_any (hx hy cp st en : Int) (w : World) :
 Calls Tryz.prog 31 #[.agg #[.int .i64 hx, .int .i64 hy, .int .i64 cp, .int .i64 st, .int .i64 en]] w fun r w' => r = .returned (.int .i64 (veh hx hy cp st en)) ∧ Below w.heap.size w w' := by
 have hP0 : At (w.alloc (.cells #[.int .i64 hx, .int .i64 hy, .int .i64 cp, .int .i64 st, .int .i64 en] 32)) w.heap.size 32 #[.int .i64 hx, .int .i64 hy, .int .i64 cp, .int .i64 st, .int .i64 en] := At.new w _ _
 have hb0 : Below w.heap.size w (w.alloc (.cells #[.int .i64 hx, .int .i64 hy, .int .i64 cp, .int .i64 st, .int .i64 en] 32)) := (Below.refl _ _).alloc (Nat.le_refl _) _
 obtain ⟨b1, h1⟩ : ∃ b, mayB (hx, hy) = b := ⟨_, rfl⟩
 obtain ⟨b2, h2⟩ : ∃ b, btwB cp 1 100000 = b := ⟨_, rfl⟩
 obtain ⟨b3, h3⟩ : ∃ b, btwB st 0 1048576 = b := ⟨_, rfl⟩
 obtain ⟨b4, h4⟩ : ∃ b, btwB en st 1048576 = b := ⟨_, rfl⟩
 have hE : veh hx hy cp st en = ff b1 b2 (b3 && b4) 4 7 7 := by unfold veh; rw [h1, h2, h3, h4]
 rw [hE]
 clear hE
 have cH : ∀ w, Calls Tryz.prog 50 #[.agg #[.int .i64 hx, .int .i64 hy]] w fun e w' => e = .returned (.bool b1) ∧ Below w.heap.size w w' := fun w => by rw [← h1]; exact Place.May_any _ _ w
 have cC : ∀ w, Calls Tryz.prog 51 #[.int .i64 cp, .int .i64 1, .int .i64 100000] w fun e w' => e = .returned (.bool b2) ∧ Below w.heap.size w w' := fun w => by rw [← h2]; exact Between_any _ _ _ w
 have cS : ∀ w, Calls Tryz.prog 51 #[.int .i64 st, .int .i64 0, .int .i64 1048576] w fun e w' => e = .returned (.bool b3) ∧ Below w.heap.size w w' := fun w => by rw [← h3]; exact Between_any _ _ _ w
 have cE : ∀ w, Calls Tryz.prog 51 #[.int .i64 en, .int .i64 st, .int .i64 1048576] w fun e w' => e = .returned (.bool b4) ∧ Below w.heap.size w w' := fun w => by rw [← h4]; exact Between_any _ _ _ w
 clear h1 h2 h3 h4
 go_enter Tryz.func31, Tryz.ntmps31
 go_wp2_with fail
 generalize (w.alloc (.cells #[.int .i64 hx, .int .i64 hy, .int .i64 cp, .int .i64 st, .int .i64 en] 32)) = w0 at *
 have c0 := hP0.cell 0
 have c1 := hP0.cell 1
 have c2 := hP0.cell 2
 have c3 := hP0.cell 3
 have c4 := hP0.cell 4
 simp at c0 c1 c2 c3 c4
 have kc0 := cell_regrown c0
 have kc1 := cell_regrown c1
 have kc2 := cell_regrown c2
 have kc3 := cell_regrown c3
 have kc4 := cell_regrown c4
 have kH := fun d os => Calls.regrown_of (cH (grow (redrawn w0 d) os))
 have kC := fun d os => Calls.regrown_of (cC (grow (redrawn w0 d) os))
 have kS := fun d os => Calls.regrown_of (cS (grow (redrawn w0 d) os))
 have kE := fun d os => Calls.regrown_of (cE (grow (redrawn w0 d) os))
 clear cH cC cS cE
 refine wp_region_below_tail 19 (by kernel_rfl) (by kernel_rfl) (by kernel_rfl) ?_
 simp only [List.take_succ_cons, List.take_zero, List.drop_succ_cons, List.drop_zero]
 cases b3
 all_goals
  repeat (go_big_quiet_step (first | with_reducible exact kH _ _ | with_reducible exact kC _ _ | with_reducible exact kS _ _ | with_reducible exact kE _ _))
  refine wpQuiet_nil ?_
  intro _ hw'
  obtain ⟨⟨dq, osq⟩, hw''⟩ := hw'
  subst hw''
  have hB := hb0.trans ((below_regrown w0 dq osq).mono hb0.size)
  generalize grow (redrawn w0 dq) osq = w2 at *
  clear kH kC kS kE kc0 kc1 kc2 kc3 kc4 c0 c1 c2 c3 c4 hP0 hb0
  go_wp2_with fail
  refine (firstFault_any _ _ _ 4 7 7 _ _ (At.new _ _ _)).mono ?_
  rintro e w3 ⟨rfl, hb3⟩
  have hE := (hB.alloc hB.size _).trans (hb3.mono (by simp; have := hB.size; omega))
  clear hb3 hB
  go_wp2
  go_ret
  exact ⟨ret_int (by simp), hE⟩
end Go.Proofs.YteclpblfleakhaaGreatDoor.Order
namespace Go.Proofs.YteclpblfleakhaaGreatDoor.Route
open Go.RowKit Go.Proofs.YteclpblfleakhaaGreatDoor.Mem
set_option linter.unusedVariables false
def MapAt (w : World) (b n : Nat) (f : Int → Option Int) : Prop :=
 ∃ D : DataW Unit, w.ownsMap Tryz.prog 3 (plainElem Tryz.prog 3) b n D ∧
  ∀ r, Maps.has D (.int .i64 r) = (f r).isSome ∧ D.atKey (.int .i64 r) (.lit (.int .i64 0)) = .lit (.int .i64 ((f r).getD 0))
variable {w v : World} {b n : Nat} {f : Int → Option Int}
theorem MapAt.inside (h : MapAt w b n f) : b < w.heap.size := h.elim fun _ h => h.1.lt
theorem MapAt.same (h : MapAt w b n f) (e : v.heap[b]? = w.heap[b]?) : MapAt v b n f := by
 obtain ⟨D, ⟨es, clock, h1, h2⟩, h3⟩ := h
 exact ⟨D, ⟨es, clock, e.trans h1, h2⟩, h3⟩
theorem MapAt.alloc (h : MapAt w b n f) (o : Obj) : MapAt (w.alloc o) b n f := h.same (Below.heap_alloc w o b h.inside)
theorem MapAt.more (h : MapAt w b n f) {m : Nat} (hm : n ≤ m) : MapAt w b m f := h.elim fun D h => ⟨D, h.1.mono hm, h.2⟩
theorem MapAt.funs (h : MapAt w b n f) {g : Int → Option Int} (e : ∀ r, g r = f r) : MapAt w b n g := by
 have : g = f := funext e
 rw [this]; exact h
theorem MapAt.made (w : World) : MapAt (w.alloc (.map #[] 0)) w.heap.size 0 (fun _ => none) :=
 ⟨_, World.ownsMap_made w _ _ _, fun r => ⟨rfl, rfl⟩⟩
theorem key_lit {r : Int} (hr : I64 r) : keyOf Tryz.prog 3 (.int .i64 r) = some (.int .i64 r) := Maps.keyOf_int_mk Tryz.underlying3 hr.wf
theorem put_tells {D : DataW Unit} (hm : Maps.IsMap D) {f : Int → Option Int} {r c : Int}
 (h : ∀ r, Maps.has D (.int .i64 r) = (f r).isSome ∧ D.atKey (.int .i64 r) (.lit (.int .i64 0)) = .lit (.int .i64 ((f r).getD 0))) (hk : WideAt.IsKeyLit (.int .i64 r)) :
 ∀ q, Maps.has (D.put (.int .i64 r) (.lit (.int .i64 c))) (.int .i64 q) = ((fun q => if q = r then some c else f q) q).isSome ∧
  (D.put (.int .i64 r) (.lit (.int .i64 c))).atKey (.int .i64 q) (.lit (.int .i64 0)) = .lit (.int .i64 (((fun q => if q = r then some c else f q) q).getD 0)) := by
 intro q
 by_cases hq : q = r
 · subst hq
   simp only [if_true]
   exact ⟨Maps.has_put_same hm hk _, Maps.atKey_put_same hm hk _ _⟩
 · have hne : (Lit.int .i64 q) ≠ .int .i64 r := fun e => hq (by injection e)
   simp only [if_neg hq]
   exact ⟨(Maps.has_put_other hne _).trans (h q).1, by rw [Maps.atKey_put_other hne]; exact (h q).2⟩
theorem lit_inj {k : IntKind} {a c : Int} (h : (DataW.lit (.int k a) : DataW Unit) = .lit (.int k c)) : a = c := by injection h with h; injection h
theorem drop_get {l : List (Int × Int)} {k : Nat} (h : k < l.length) : ∃ s, l[k]? = some s ∧ l.drop k = s :: l.drop (k + 1) := ⟨l[k], List.getElem?_eq_getElem h, List.drop_eq_getElem_cons h⟩
theorem Row.opened {B : Nat} {W : World} {v : Value} {l : List (Int × Int)} (h : Row B W v l) : ∃ x N cap, v = .slice x N cap ∧ Hid (l.length = N) ∧ Hid (x = none → N = 0 ∧ cap = 0) ∧ N ≤ cap ∧ cap ≤ maxLen := by
 obtain ⟨x, cap, e, h1, h2, h0⟩ := h.slice
 exact ⟨x, l.length, cap, e, Lib.hid rfl, Lib.hid (fun hx => ⟨by rw [(h0 hx).1]; rfl, (h0 hx).2⟩), h1, h2⟩
theorem Ints.opened {B : Nat} {W : World} {v : Value} {l : List Int} (h : Ints B W v l) : ∃ x N cap, v = .slice x N cap ∧ Hid (l.length = N) ∧ N ≤ cap ∧ cap ≤ maxLen := by
 obtain ⟨x, cap, e, h1, h2⟩ := h.slice
 exact ⟨x, l.length, cap, e, Lib.hid rfl, h1, h2⟩
theorem cnt_le (s : Int × Int) (l : List (Int × Int)) : cnt s l ≤ l.length := List.length_filter_le ..
theorem take_get {l : List (Int × Int)} {k : Nat} {s : Int × Int} (h : l[k]? = some s) : l.take (k + 1) = l.take k ++ [s] := by rw [List.take_add_one, h]; rfl
set_option maxRecDepth 100000 in
set_option maxHeartbeats 1000000 in
theorem count_any (v : Value) (l : List (Int × Int)) (a b : Int) (hl : l.length ≤ 140737488351232) (w : World) (h : Row w.heap.size w v l) :
 Calls Tryz.prog 101 #[v, .agg #[.int .i64 a, .int .i64 b]] w fun e w' => e = .returned (.int .i64 (cnt (a, b) l)) ∧ Below w.heap.size w w' := by
 obtain ⟨x, N, cap, rfl, hN', h0', hc1, hc2⟩ := h.opened
 have hb0 : Below w.heap.size w (w.alloc (.cells #[.int .i64 a, .int .i64 b] 82)) := (Below.refl _ _).alloc (Nat.le_refl _) _
 have hA0 : At (w.alloc (.cells #[.int .i64 a, .int .i64 b] 82)) w.heap.size 82 #[.int .i64 a, .int .i64 b] := At.new w _ _
 have h' := Lib.hid h
 rw [hN'.out] at hl
 clear h
 go_enter Tryz.func101, Tryz.ntmps101
 go_wp2
 go_loopw [5, 6] (fun n i wr => ∃ k c : Nat, k ≤ N ∧ i = .int .i64 k ∧ n = .int .i64 c ∧ c = cnt (a, b) (l.take k) ∧ Below w.heap.size w wr ∧ At wr w.heap.size 82 #[.int .i64 a, .int .i64 b])
  (fun _ i _ => N - (intOf i).toNat)
 case atStart => exact ⟨0, 0, by omega, rfl, rfl, by simp [cnt], hb0, hA0⟩
 case round =>
  obtain ⟨k, c, hk, rfl, rfl, hcc, hbw, hA⟩ := hrel
  have hcl : c ≤ k := by
   have h1 := cnt_le (a, b) (l.take k)
   rw [List.length_take] at h1
   omega
  have hcc' := Lib.hid hcc
  clear hb0 hA0 hcc
  by_cases hlt : k < N
  · obtain ⟨s, hs, _⟩ := drop_get (l := l) (k := k) (by rw [hN'.out]; exact hlt)
    obtain ⟨s1, s2⟩ := s
    have hst := take_get hs
    obtain ⟨g, o, rfl, hg, e1, e2⟩ := Row.stop h'.out hs
    have e1 := (hbw.cell (p := ⟨g, o + k * 2, none⟩) hg).trans e1
    have e2 := (hbw.cell (p := ⟨g, o + k * 2 + 1, none⟩) hg).trans e2
    have a0 := hA.cell 0
    have a1 := hA.cell 1
    simp at a0 a1 e1 e2
    have hyes := Lib.hid (show s1 = a → s2 = b → cnt (a, b) (l.take (k + 1)) = c + 1 by rintro rfl rfl; rw [hst, cnt_append, cnt_cons_same, ← hcc'.out]; rfl)
    have hno := Lib.hid (show ((s1, s2) : Int × Int) ≠ (a, b) → cnt (a, b) (l.take (k + 1)) = c by intro hne; rw [hst, cnt_append, cnt_cons_other hne, ← hcc'.out]; rfl)
    clear hs hst
    cases h1 : (s1 == a)
    · go_wp2
      go_quiet (fail)
      go_wp2
      go_roundw
      case rel => exact ⟨k + 1, c, by omega, by go_num, rfl, (hno.out (by intro e; cases e; simp at h1)).symm, below_drewN hbw nq, hA.drewN nq⟩
      case measure => simp [intOf]; omega
    · cases h2 : (s2 == b)
      · go_wp2
        go_quiet (fail)
        go_wp2
        go_roundw
        case rel => exact ⟨k + 1, c, by omega, by go_num, rfl, (hno.out (by intro e; cases e; simp at h2)).symm, below_drewN hbw nq, hA.drewN nq⟩
        case measure => simp [intOf]; omega
      · go_wp2
        go_quiet (fail)
        go_wp2
        go_roundw
        case rel => exact ⟨k + 1, c + 1, by omega, by go_num, by go_num, (hyes.out (by simpa using h1) (by simpa using h2)).symm, below_drewN hbw nq, hA.drewN nq⟩
        case measure => simp [intOf]; omega
  · obtain rfl : k = N := by omega
    have he : c = cnt (a, b) l := by rw [hcc'.out, ← hN'.out, List.take_length]
    have he' := Lib.hid he
    clear he
    go_wp2
    go_ret
    exact ⟨ret_int (by rw [he'.out]), hbw⟩
theorem wo_succ_no {l : List (Int × Int)} {k : Nat} {s : Int × Int} {r : Int} (h : l[k]? = some s) (hr : s.1 = r) : woL r (l.take (k + 1)) = woL r (l.take k) := by rw [take_get h, wo_append]; simp [woL, hr]
theorem wo_succ_yes {l : List (Int × Int)} {k : Nat} {s : Int × Int} {r : Int} (h : l[k]? = some s) (hr : s.1 ≠ r) : woL r (l.take (k + 1)) = woL r (l.take k) ++ [s] := by rw [take_get h, wo_append]; simp [woL, hr]
theorem wo_take_le (r : Int) (l : List (Int × Int)) (k : Nat) : (woL r (l.take k)).length ≤ k := by
 have := wo_length r (l.take k)
 rw [List.length_take] at this
 omega
theorem ix_here {l : List (Int × Int)} {k : Nat} {s x : Int × Int} (h : l[k]? = some x) (e : x = s) : (k : Int) = ixF s k (l.drop k) := by
 have hlt := (List.getElem?_eq_some_iff.1 h)
 obtain ⟨hlt, hx⟩ := hlt
 rw [List.drop_eq_getElem_cons hlt, hx, ixF_yes e]
theorem ix_past {l : List (Int × Int)} {k : Nat} {s x : Int × Int} (h : l[k]? = some x) (e : x ≠ s) : ixF s (k + 1) (l.drop (k + 1)) = ixF s k (l.drop k) := by
 obtain ⟨hlt, hx⟩ := List.getElem?_eq_some_iff.1 h
 rw [List.drop_eq_getElem_cons hlt, hx, ixF_no e]
theorem ret_two {a b c d : Int} (h : a = b) (h2 : c = d) : Ending.returned (.tuple #[.int .i64 a, .int .i64 c]) = .returned (.tuple #[.int .i64 b, .int .i64 d]) := by rw [h, h2]
set_option maxRecDepth 100000 in
set_option maxHeartbeats 1000000 in
theorem refAt_any (v : Value) (l : List (Int × Int)) (r : Int) (hl : l.length ≤ 1000000) (w : World) (h : Row w.heap.size w v l) :
 Calls Tryz.prog 62 #[v, .int .i64 r] w fun e w' => e = .returned (.tuple #[.int .i64 (ixV (r, 0) l), .int .i64 (ixV (r, 1) l)]) ∧ Below w.heap.size w w' := by
 obtain ⟨x, N, cap, rfl, hN', h0', hc1, hc2⟩ := h.opened
 have h' := Lib.hid h
 rw [hN'.out] at hl
 clear h
 have hwr : IntKind.i64.wrap ((N : Int) - 1) = (N : Int) - 1 := IntWalk.i64_in _ (by omega)
 go_enter Tryz.func62, Tryz.ntmps62
 go_wp2
 go_loopw [6, 7, 8] (fun p d i wr => ∃ (k : Nat) (a b : Int), k ≤ N ∧ i = .int .i64 ((k : Int) - 1) ∧ p = .int .i64 a ∧ d = .int .i64 b ∧ Hid (a = ixF (r, 0) k (l.drop k)) ∧ Hid (b = ixF (r, 1) k (l.drop k)) ∧ Below w.heap.size w wr)
  (fun _ _ i _ => (intOf i + 1).toNat)
 case atStart => exact ⟨N, -1, -1, Nat.le_refl _, rfl, rfl, rfl, Lib.hid (by rw [List.drop_eq_nil_of_le (by rw [hN'.out]; omega)]; rfl), Lib.hid (by rw [List.drop_eq_nil_of_le (by rw [hN'.out]; omega)]; rfl), Below.refl _ _⟩
 case round =>
  obtain ⟨k, a, b, hk, rfl, rfl, rfl, ha, hb, hbw⟩ := hrel
  cases k with
  | zero =>
   go_wp2
   refine bodyPost_ret (v := .tuple #[.int .i64 _, .int .i64 _]) (by simp [results, Tryz.results62, go_sem]; exact ⟨rfl, rfl⟩) rfl ?_
   exact ⟨ret_two (by rw [ha.out, ixV, List.drop_zero]) (by rw [hb.out, ixV, List.drop_zero]), hbw⟩
  | succ k =>
   obtain ⟨s, hs, _⟩ := drop_get (l := l) (k := k) (by rw [hN'.out]; omega)
   obtain ⟨g, o, rfl, hg, e1, e2⟩ := Row.stop h'.out hs
   have e1 := (hbw.cell (p := ⟨g, o + k * 2, none⟩) hg).trans e1
   have e2 := (hbw.cell (p := ⟨g, o + k * 2 + 1, none⟩) hg).trans e2
   have y0 := Lib.hid (ix_here (s := (r, 0)) hs)
   have y1 := Lib.hid (ix_here (s := (r, 1)) hs)
   have n0 := Lib.hid (ix_past (s := (r, 0)) hs)
   have n1 := Lib.hid (ix_past (s := (r, 1)) hs)
   clear hs
   obtain ⟨s1, s2⟩ := s
   simp only at e1 e2
   have hkk : ((k + 1 : Nat) : Int) - 1 = k := by omega
   simp only [hkk]
   cases h1 : (s1 == r)
   · have hne : s1 ≠ r := by simpa using h1
     have n0' := Lib.hid (n0.out (by intro e; cases e; exact hne rfl))
     have n1' := Lib.hid (n1.out (by intro e; cases e; exact hne rfl))
     clear y0 y1 n0 n1 hne hkk
     go_wp2
     go_roundw
     case rel => exact ⟨k, a, b, by omega, by go_num, rfl, rfl, Lib.hid (ha.out.trans n0'.out), Lib.hid (hb.out.trans n1'.out), hbw⟩
     case measure => simp [intOf] <;> omega
   · obtain rfl : s1 = r := by simpa using h1
     cases h2 : (s2 == 0)
     · have hne : s2 ≠ 0 := by simpa using h2
       have n0' := Lib.hid (n0.out (by intro e; cases e; exact hne rfl))
       cases h3 : (s2 == 1)
       · have hne2 : s2 ≠ 1 := by simpa using h3
         have n1' := Lib.hid (n1.out (by intro e; cases e; exact hne2 rfl))
         clear y0 y1 n0 n1 hne hne2 hkk
         go_wp2
         go_roundw
         case rel => exact ⟨k, a, b, by omega, by go_num, rfl, rfl, Lib.hid (ha.out.trans n0'.out), Lib.hid (hb.out.trans n1'.out), hbw⟩
         case measure => simp [intOf] <;> omega
       · obtain rfl : s2 = 1 := by simpa using h3
         have y1' := Lib.hid (y1.out rfl)
         clear y0 y1 n0 n1 hne hkk
         go_wp2
         go_roundw
         case rel => exact ⟨k, a, k, by omega, by go_num, rfl, rfl, Lib.hid (ha.out.trans n0'.out), y1', hbw⟩
         case measure => simp [intOf] <;> omega
     · obtain rfl : s2 = 0 := by simpa using h2
       have y0' := Lib.hid (y0.out rfl)
       have n1' := Lib.hid (n1.out (by simp))
       clear y0 y1 n0 n1 hkk
       go_wp2
       go_roundw
       case rel => exact ⟨k, k, b, by omega, by go_num, rfl, rfl, y0', Lib.hid (hb.out.trans n1'.out), hbw⟩
       case measure => simp [intOf] <;> omega
end Go.Proofs.YteclpblfleakhaaGreatDoor.Route

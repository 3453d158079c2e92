import Derived.Test.YteclpblfleakhaaGreatDoorPkInsKp
import Derived.Test.YteclpblfleakhaaGreatDoorPkInsIdx
import Derived.Test.YteclpblfleakhaaGreatDoorPkWindowFuncs2

namespace Go.Proofs.YteclpblfleakhaaGreatDoor.Load
open Go.RowKit Go.Shelf Go.Proofs.YteclpblfleakhaaGreatDoor.Mem Go.Proofs.YteclpblfleakhaaGreatDoor.Route Go.Proofs.YteclpblfleakhaaGreatDoor.When Go.Proofs.YteclpblfleakhaaGreatDoor.Up
set_option linter.unusedVariables false
attribute [local go_sem] Oper.semAt_some
theorem vehicle_any (v : Vh) (w : World) : Calls Tryz.prog 31 #[.agg #[.int .i64 v.hx, .int .i64 v.hy, .int .i64 v.cp, .int .i64 v.st, .int .i64 v.en]] w
 fun e w' => e = .returned (.int .i64 v.chk) ∧ Below w.heap.size w w' := Order.Vehicle_any _ _ _ _ _ w
def roomB (c : Int) (y : Int × Int) : Bool := !decide (c < y.2)
theorem upTo_stop {α : Type} {good : α → Bool} : ∀ {xs : List α}, ¬ (∀ y ∈ xs, good y = true) → ∃ pre y rest, xs = pre ++ y :: rest ∧ (∀ z ∈ pre, good z = true) ∧ good y = false ∧ upTo good xs = pre ++ [y]
 | [], h => absurd (fun y hy => by cases hy) h
 | x :: xs, h => by
  cases hx : good x
  · exact ⟨[], x, xs, rfl, (fun z hz => by cases hz), hx, by rw [upTo_bad hx]; rfl⟩
  · obtain ⟨pre, y, rest, e, h1, h2, h3⟩ := upTo_stop (xs := xs) (fun hh => h fun y hy => by
     rcases List.mem_cons.1 hy with rfl | hy
     · exact hx
     · exact hh y hy)
    refine ⟨x :: pre, y, rest, by rw [e]; rfl, fun z hz => ?_, h2, by rw [upTo_good hx, h3]; rfl⟩
    rcases List.mem_cons.1 hz with rfl | hz
    · exact hx
    · exact h1 z hz
structure FitI (w : World) (v : Vh) (q p : Nat) (vl vt : Value) (good : Int × Int → Bool) (pre : List (Int × Int)) (W : World) : Prop where
 veh : At W q 32 #[.int .i64 v.hx, .int .i64 v.hy, .int .i64 v.cp, .int .i64 v.st, .int .i64 v.en]
 a : ∃ u, At W (q + 1) 3 #[.int .i64 u] ∧ ∀ pre' y, pre = pre' ++ [y] → good y = false → u = y.1
 e : ∃ u, At W (q + 2) 51 #[.int .i64 u] ∧ ∀ pre' y, pre = pre' ++ [y] → good y = false → u = 10
 hl : At W p 28 #[vl]
 ht : At W (p + 1) 37 #[vt]
 below : Below w.heap.size w W
theorem FitI.old {w : World} {v : Vh} {q p : Nat} {vl vt : Value} {good : Int × Int → Bool} {m : Nat} (hm : w.heap.size ≤ m) : Old m (FitI w v q p vl vt good) := by
 rintro pre A A' row h hg hr
 obtain ⟨u1, h1, h2⟩ := h.a
 obtain ⟨u3, h3, h4⟩ := h.e
 exact ⟨cellsOld h.veh hg hr, ⟨u1, cellsOld h1 hg hr, h2⟩, ⟨u3, cellsOld h3 hg hr, h4⟩, cellsOld h.hl hg hr, cellsOld h.ht hg hr, h.below.grown hg h.below.size (fun k e => by have := (hr k e).1; omega)⟩
theorem FitI.go {w : World} {v : Vh} {q p : Nat} {vl vt : Value} {good : Int × Int → Bool} {pre : List (Int × Int)} {W : World} (h : FitI w v q p vl vt good pre W) (y : Int × Int) (hy : good y = true) : FitI w v q p vl vt good (pre ++ [y]) W := by
 obtain ⟨u1, h1, h2⟩ := h.a
 obtain ⟨u3, h3, h4⟩ := h.e
 refine ⟨h.veh, ⟨u1, h1, fun pre' z e hz => ?_⟩, ⟨u3, h3, fun pre' z e hz => ?_⟩, h.hl, h.ht, h.below⟩
 · have e2 := List.append_inj_right' e rfl
   simp only [List.cons.injEq, and_true] at e2
   rw [← e2, hy] at hz
   cases hz
 · have e2 := List.append_inj_right' e rfl
   simp only [List.cons.injEq, and_true] at e2
   rw [← e2, hy] at hz
   cases hz
theorem FitI.stop {w : World} {v : Vh} {q p : Nat} {vl vt : Value} {good : Int × Int → Bool} {pre : List (Int × Int)} {W : World} (h : FitI w v q p vl vt good pre W) (y : Int × Int) (hq : w.heap.size ≤ q) (hp : q + 2 < p) :
 FitI w v q p vl vt good (pre ++ [y]) ((W.setCell ⟨q + 1, 0, none⟩ (.int .i64 y.1)).setCell ⟨q + 2, 0, none⟩ (.int .i64 10)) := by
 obtain ⟨u1, h1, h2⟩ := h.a
 obtain ⟨u3, h3, h4⟩ := h.e
 refine ⟨(h.veh.far (by omega) _ _).far (by omega) _ _, ⟨y.1, by simpa using (h1.put 0 (.int .i64 y.1)).far (b := q + 2) (by omega) 0 (.int .i64 10), fun pre' z e hz => ?_⟩, ⟨10, by simpa using (h3.far (b := q + 1) (by omega) 0 (.int .i64 y.1)).put 0 (.int .i64 10), fun _ _ _ _ => rfl⟩, (h.hl.far (by omega) _ _).far (by omega) _ _, (h.ht.far (by omega) _ _).far (by omega) _ _, (h.below.setCell (by simp; omega) _).setCell (by simp; omega) _⟩
 have e2 := List.append_inj_right' e rfl
 simp only [List.cons.injEq, and_true] at e2
 rw [e2]
theorem fit_all {v : Vh} {l : List (Int × Int)} {t : List Rq} (hv : v.chk = 0) (ht : toldV l t = 0) (h : ∀ y ∈ prs t l, roomB v.cp y = true) : fitAt v l t = -1 ∧ fitE v l t = 0 := by
 have hp : profV l t = prof t l := by unfold profV; rw [if_pos ht]
 have h1 : ∀ x ∈ prof t l, x ≤ v.cp := by
  intro x hx
  rw [← prs_snd] at hx
  obtain ⟨y, hy, rfl⟩ := List.mem_map.1 hx
  have := h y hy
  simp [roomB] at this
  exact this
 unfold fitAt fitE
 rw [if_pos hv, if_neg (by omega), if_neg (by omega), hp]
 refine ⟨fstF_no h1, ?_⟩
 rw [if_neg]
 unfold moreB
 rw [List.any_eq_true]
 rintro ⟨x, hx, hc⟩
 have := h1 x hx
 simp at hc
 omega
theorem fit_bad {v : Vh} {l : List (Int × Int)} {t : List Rq} (hv : v.chk = 0) (ht : toldV l t = 0) {pre rest : List (Int × Int)} {y : Int × Int} (hx : prs t l = pre ++ y :: rest) (h : ∀ z ∈ pre, roomB v.cp z = true) (hy : roomB v.cp y = false) : fitAt v l t = y.1 ∧ fitE v l t = 10 := by
 have hp : profV l t = prof t l := by unfold profV; rw [if_pos ht]
 have hs : prof t l = pre.map (·.2) ++ y.2 :: rest.map (·.2) := by rw [← prs_snd, hx]; simp
 have hy2 : v.cp < y.2 := by simpa [roomB] using hy
 have h1 : ∀ x ∈ pre.map (·.2), x ≤ v.cp := by
  intro x hx
  obtain ⟨z, hz, rfl⟩ := List.mem_map.1 hx
  have := h z hz
  simp [roomB] at this
  exact this
 unfold fitAt fitE
 rw [if_pos hv, if_neg (by omega), if_neg (by omega), hp]
 constructor
 · unfold fstV
   rw [hs, fstF_at hy2 h1, (prs_at hx).2]
   simp
 · rw [if_pos]
   unfold moreB
   rw [hs, List.any_eq_true]
   exact ⟨y.2, by simp, by simpa using hy2⟩
set_option maxRecDepth 100000 in
set_option maxHeartbeats 4000000 in
theorem Fits_any (v : Vh) (vl vt : Value) (l : List (Int × Int)) (t : List Rq) (hl : l.length ≤ 1000000) (hnum : Nums l) (w : World) (hsg : Sg w) (hL : Row w.heap.size w vl l) (hT : Rqs w.heap.size w vt t) :
 Calls Tryz.prog 92 #[.agg #[.int .i64 v.hx, .int .i64 v.hy, .int .i64 v.cp, .int .i64 v.st, .int .i64 v.en], vl, vt] w fun e w' => e = .returned (.tuple #[.int .i64 (fitAt v l t), .int .i64 (fitE v l t)]) ∧ Below w.heap.size w w' := by
 obtain ⟨xl, Nl, capl, rfl, hNl, hl0, hlc1, hlc2⟩ := hL.opened
 obtain ⟨xt, Nt, capt, rfl, hNt0, htc1, htc2, ht0⟩ := hT.opened
 unfold maxLen at hlc2
 have hL' := Lib.hid hL
 have hT' := Lib.hid hT
 obtain ⟨q, hq⟩ : ∃ q, w.heap.size = q := ⟨_, rfl⟩
 obtain ⟨w0, hw0⟩ : ∃ w0, ((w.alloc (.cells #[.int .i64 v.hx, .int .i64 v.hy, .int .i64 v.cp, .int .i64 v.st, .int .i64 v.en] 32)).alloc (.cells #[.int .i64 0] 3)).alloc (.cells #[.int .i64 0] 51) = w0 := ⟨_, rfl⟩
 have hV0 : At w0 q 32 #[.int .i64 v.hx, .int .i64 v.hy, .int .i64 v.cp, .int .i64 v.st, .int .i64 v.en] := by rw [← hw0]; exact ((At.new_ _ _ _ hq.symm).alloc _).alloc _
 have hA0 : At w0 (q + 1) 3 #[.int .i64 0] := by rw [← hw0]; exact (At.new_ _ _ _ (by simp [hq])).alloc _
 have hE0 : At w0 (q + 2) 51 #[.int .i64 0] := by rw [← hw0]; exact At.new_ _ _ _ (by simp [hq])
 have hb0 : Below w.heap.size w w0 := by rw [← hw0]; exact (((Below.refl _ _).alloc (Nat.le_refl _) _).alloc (by simp) _).alloc (by simp; omega) _
 have hs0 : w0.heap.size = q + 3 := by rw [← hw0]; simp [hq]
 have hck := Lib.hid (fun (w1 : World) (hb : Below w.heap.size w w1) => check_any _ _ l t hl hnum w1 (hL'.out.on hb) (hT'.out.on hb))
 have hw0' := Lib.hid hw0
 have hq' := Lib.hid hq
 obtain ⟨V, hV⟩ : ∃ V, v.chk = V := ⟨_, rfl⟩
 obtain ⟨E, hE⟩ : ∃ E, toldV l t = E := ⟨_, rfl⟩
 have hcv := vehicle_any v w0
 rw [hV] at hcv
 simp only [hE] at hck
 have hV' := Lib.hid hV
 have hE' := Lib.hid hE
 have hqle : w.heap.size ≤ q := by omega
 clear hL hT hNt0 ht0 hl hnum hE hV hw0
 refine (callsIn_wide (n := 3)).1 ?_
 refine callsIn_of_wp_marks Tryz.func92 rfl trivial ?_ rfl
 simp only [Tryz.ntmps92, List.size_toArray, List.length_cons, List.length_nil, Nat.reduceAdd, Nat.reduceSub, Array.replicate_succ, Array.replicate_zero, List.push_toArray, List.append_toArray, List.nil_append, List.cons_append]
 have v0 := hV0.cell 0
 have v1 := hV0.cell 1
 have v2 := hV0.cell 2
 have v3 := hV0.cell 3
 have v4 := hV0.cell 4
 simp at v0 v1 v2 v3 v4
 gi_wp2_with fail
 refine ⟨trivial, ?_⟩
 rw [hw0'.out]
 refine (callsIn_wide.2 hcv).mono ?_
 clear hcv v0 v1 v2 v3 v4
 rintro e w1 ⟨rfl, hb1⟩
 have hB1 := hb0.trans (hb1.mono hb0.size)
 have hV1 := hV0.keep hb1 hV0.inside
 have hA1 := hA0.keep hb1 hA0.inside
 have hE1 := hE0.keep hb1 hE0.inside
 clear hb0 hb1 hV0 hA0 hE0 hs0
 have hi0 := hV1.inside
 have hi1 := hA1.inside
 have hi2 := hE1.inside
 cases hv0 : (V == 0)
 · have hv1 : (V != 0) = true := by simpa using hv0
   have hw : Hid (fitAt v l t = -1 ∧ fitE v l t = V) := Lib.hid (by
    have h1 : v.chk ≠ 0 := by rw [hV'.out]; simpa using hv0
    unfold fitAt fitE
    rw [if_neg h1, if_pos h1, hV'.out]
    exact ⟨rfl, rfl⟩)
   have a0 := hA1.cell 0
   have af := hA1.free 0
   have e0 := hE1.cell 0
   have ef := hE1.free 0
   simp at a0 e0
   gi_wp2
   obtain ⟨W9, hW9⟩ : ∃ W9, (w1.setCell ⟨q + 1, 0, none⟩ (.int .i64 (-1))).setCell ⟨q + 2, 0, none⟩ (.int .i64 V) = W9 := ⟨_, rfl⟩
   have k1 : At W9 (q + 1) 3 #[.int .i64 (-1)] := by rw [← hW9]; simpa using (hA1.put 0 (.int .i64 (-1))).far (b := q + 2) (by omega) 0 (.int .i64 V)
   have k2 : At W9 (q + 2) 51 #[.int .i64 V] := by rw [← hW9]; simpa using (hE1.far (b := q + 1) (by omega) 0 (.int .i64 (-1))).put 0 (.int .i64 V)
   have hB9 : Below w.heap.size w W9 := by rw [← hW9]; exact (hB1.setCell (by simp; omega) _).setCell (by simp; omega) _
   have k3 := k1.cell 0
   have k4 := k2.cell 0
   simp at k3 k4
   rw [hW9]
   exact ⟨.tuple #[.int .i64 (-1), .int .i64 V], by simp [results, Tryz.results92, go_sem, k3, k4], ret_ii hw.out.1.symm hw.out.2.symm, hB9⟩
 · have hv1 : (V != 0) = false := by simpa using hv0
   have hvz : Hid (v.chk = 0) := Lib.hid (by rw [hV'.out]; simpa using hv0)
   gi_wp2_with fail
   refine ⟨trivial, ?_⟩
   refine (callsIn_wide.2 (hck.out w1 hB1)).mono ?_
   rintro e w2 ⟨rfl, hb2⟩
   have hB2 := hB1.trans (hb2.mono hB1.size)
   have hV2 := hV1.keep hb2 hi0
   have hA2 := hA1.keep hb2 hi1
   have hE2 := hE1.keep hb2 hi2
   clear hb2 hB1 hV1 hA1 hE1 hi0 hi1 hi2
   have hi0 := hV2.inside
   have hi1 := hA2.inside
   have hi2 := hE2.inside
   cases he0 : (E == 0)
   · have he1 : (E != 0) = true := by simpa using he0
     have hw : Hid (fitAt v l t = -1 ∧ fitE v l t = E) := Lib.hid (by
      have h1 : toldV l t ≠ 0 := by rw [hE'.out]; simpa using he0
      unfold fitAt fitE profV
      rw [if_pos hvz.out, if_neg h1, if_neg (show ¬ v.chk ≠ 0 by rw [hvz.out]; simp), if_pos h1, hE'.out]
      exact ⟨rfl, rfl⟩)
     have a0 := hA2.cell 0
     have af := hA2.free 0
     have e0 := hE2.cell 0
     have ef := hE2.free 0
     simp at a0 e0
     gi_wp2
     obtain ⟨W9, hW9⟩ : ∃ W9, (w2.setCell ⟨q + 1, 0, none⟩ (.int .i64 (-1))).setCell ⟨q + 2, 0, none⟩ (.int .i64 E) = W9 := ⟨_, rfl⟩
     have k1 : At W9 (q + 1) 3 #[.int .i64 (-1)] := by rw [← hW9]; simpa using (hA2.put 0 (.int .i64 (-1))).far (b := q + 2) (by omega) 0 (.int .i64 E)
     have k2 : At W9 (q + 2) 51 #[.int .i64 E] := by rw [← hW9]; simpa using (hE2.far (b := q + 1) (by omega) 0 (.int .i64 (-1))).put 0 (.int .i64 E)
     have hB9 : Below w.heap.size w W9 := by rw [← hW9]; exact (hB2.setCell (by simp; omega) _).setCell (by simp; omega) _
     have k3 := k1.cell 0
     have k4 := k2.cell 0
     simp at k3 k4
     rw [hW9]
     exact ⟨.tuple #[.int .i64 (-1), .int .i64 E], by simp [results, Tryz.results92, go_sem, k3, k4], ret_ii hw.out.1.symm hw.out.2.symm, hB9⟩
   · have he1 : (E != 0) = false := by simpa using he0
     have htz : Hid (toldV l t = 0) := Lib.hid (by rw [hE'.out]; simpa using he0)
     obtain ⟨p, hp⟩ : ∃ p, w2.heap.size = p := ⟨_, rfl⟩
     obtain ⟨w3, hw3⟩ : ∃ w3, (w2.alloc (.cells #[.slice xl Nl capl] 28)).alloc (.cells #[.slice xt Nt capt] 37) = w3 := ⟨_, rfl⟩
     have hs3 : w3.heap.size = p + 2 := by rw [← hw3]; simp [hp]
     have hqp : q + 2 < p := by rw [← hp]; exact hi2
     have hI0 : FitI w v q p (.slice xl Nl capl) (.slice xt Nt capt) (roomB v.cp) [] w3 := by
      rw [← hw3]
      refine ⟨(hV2.alloc _).alloc _, ⟨0, (hA2.alloc _).alloc _, fun pre' z e => ?_⟩, ⟨0, (hE2.alloc _).alloc _, fun pre' z e => ?_⟩, (At.new_ _ _ _ hp.symm).alloc _, At.new_ _ _ _ (by simp [hp]), (hB2.alloc hB2.size _).alloc (by simp; omega) _⟩
      · exact absurd (congrArg List.length e) (by simp)
      · exact absurd (congrArg List.length e) (by simp)
     have hrun := board_runs l t htz.out (.slice xl Nl capl) (.slice xt Nt capt) p (p + 1) w.heap.size (w3.heap.size + 2) (by omega) (roomB v.cp) (FitI w v q p (.slice xl Nl capl) (.slice xt Nt capt) (roomB v.cp))
      (fun q A hA => ⟨hA.hl, hA.ht, hL'.out.keep hA.below (Nat.le_refl _), hT'.out.keep hA.below (Nat.le_refl _), hsg.on hA.below⟩)
     have hI0' := Lib.hid hI0
     have hrun' := Lib.hid hrun
     have hw3' := Lib.hid hw3
     have hp' := Lib.hid hp
     clear hI0 hrun hw3 hp hV2 hA2 hE2 hB2 hck
     gi_wp2_with fail
     refine ⟨trivial, ?_⟩
     refine (callsIn_wide.2 (onBoard_any xl xt Nl capl Nt capt w2)).mono ?_
     rintro e w3' ⟨rfl, hw3⟩
     obtain rfl : w3 = w3' := hw3'.out.symm.trans hw3
     clear hw3
     rw [hp'.out]
     gi_wp2_with fail
     refine rangesRound2 (gf := 119) (fst := #[]) (lb := #[.pointer (some ⟨p, 0, none⟩), .pointer (some ⟨p + 1, 0, none⟩)]) rfl (enters_of Tryz.func119 (by kernel_rfl) rfl) (encs := encP) (good := roomB v.cp) (xs := prs t l) (fun _ => rfl)
      (FitI w v q p (.slice xl Nl capl) (.slice xt Nt capt) (roomB v.cp)) (FitI.old (by omega)) hI0'.out hrun'.out ?round ?done ?stop
     case round =>
      rintro l2 pre y Wr ⟨rest, hx⟩ hW2 - hg
      dsimp only [encP]
      clear hx
      gi_wp2
      refine ⟨gRefl _ _, fun Vr hVs hVb hI2 => ?_⟩
      have hI2' := Lib.hid hI2
      have c0 := hI2.veh.cell 2
      simp at c0
      obtain ⟨u1, hu1, _⟩ := hI2.a
      obtain ⟨u3, hu3, _⟩ := hI2.e
      have a0 := hu1.cell 0
      have af := hu1.free 0
      have e0 := hu3.cell 0
      have ef := hu3.free 0
      simp at a0 e0
      have hiv := hI2.veh.inside
      have hpi := hu1.inside
      have hpe := hu3.inside
      clear hI2 hVb hg hI0' hrun' hw3' hu1 hu3
      cases hr : decide (v.cp < y.2)
      · have hgd : Hid (roomB v.cp y = true) := Lib.hid (by unfold roomB; rw [hr]; rfl)
        gi_wp2
        exact ⟨hgd.out, FitI.go hI2'.out y hgd.out, Held.refl _ _⟩
      · have hgd : Hid (roomB v.cp y = false) := Lib.hid (by unfold roomB; rw [hr]; rfl)
        gi_wp2
        exact ⟨hgd.out, FitI.stop hI2'.out y hqle hqp, (Held.setCell _ (by omega) (by omega) _).trans (Held.setCell _ (by omega) (by omega) _)⟩
     case done =>
      rintro Wr hW2 hI2 hall hD
      have hw := Lib.hid (fit_all hvz.out htz.out hall)
      obtain ⟨u1, hA2, _⟩ := hI2.a
      obtain ⟨u3, hE2, _⟩ := hI2.e
      have hB2 := hI2.below
      have a0 := hA2.cell 0
      have af := hA2.free 0
      have e0 := hE2.cell 0
      have ef := hE2.free 0
      simp at a0 e0
      have hpi := hA2.inside
      have hpe := hE2.inside
      clear hI2 hall hI0' hrun' hw3'
      gi_wp2
      obtain ⟨W9, hW9⟩ : ∃ W9, (Wr.setCell ⟨q + 1, 0, none⟩ (.int .i64 (-1))).setCell ⟨q + 2, 0, none⟩ (.int .i64 0) = W9 := ⟨_, rfl⟩
      have k1 : At W9 (q + 1) 3 #[.int .i64 (-1)] := by rw [← hW9]; simpa using (hA2.put 0 (.int .i64 (-1))).far (b := q + 2) (by omega) 0 (.int .i64 0)
      have k2 : At W9 (q + 2) 51 #[.int .i64 0] := by rw [← hW9]; simpa using (hE2.far (b := q + 1) (by omega) 0 (.int .i64 (-1))).put 0 (.int .i64 0)
      have hB9 : Below w.heap.size w W9 := by rw [← hW9]; exact (hB2.setCell (by simp; omega) _).setCell (by simp; omega) _
      have hD9 : W9.heap[w3.heap.size]? = some (.deferred (some [])) := by
       rw [← hW9]
       exact (Below.heap_setCell _ _ _ _ (by show w3.heap.size ≠ q + 2; omega)).trans ((Below.heap_setCell _ _ _ _ (by show w3.heap.size ≠ q + 1; omega)).trans hD)
      rw [hW9]
      have k5 : At (W9.putObj w3.heap.size (.deferred none)) (q + 1) 3 #[.int .i64 (-1)] := (World.putObj_heap_other (by omega)).trans k1
      have k6 : At (W9.putObj w3.heap.size (.deferred none)) (q + 2) 51 #[.int .i64 0] := (World.putObj_heap_other (by omega)).trans k2
      have k3 := k5.cell 0
      have k4 := k6.cell 0
      simp at k3 k4
      have hBA : Below w.heap.size w (W9.putObj w3.heap.size (.deferred none)) := hB9.grown (grownBy_putObj' _ _ _) hB9.size (fun r e => by cases e; omega)
      refine ⟨by simp, .inl ⟨_, _, rfl, run_takeDeferred hD9, ?_⟩⟩
      exact ⟨.tuple #[.int .i64 (-1), .int .i64 0], by simp [results, Tryz.results92, go_sem, k3, k4], ret_ii hw.out.1.symm hw.out.2.symm, hBA⟩
     case stop =>
      rintro Wr hW2 hI2 hbad hD
      obtain ⟨pre, y, rest, hx, hg, hy, hup⟩ := upTo_stop hbad
      have hw := Lib.hid (fit_bad hvz.out htz.out hx hg hy)
      rw [hup] at hI2
      obtain ⟨u1, hA2, hu1⟩ := hI2.a
      obtain ⟨u3, hE2, hu3⟩ := hI2.e
      obtain rfl := hu1 pre y rfl hy
      obtain rfl := hu3 pre y rfl hy
      have hB2 := hI2.below
      have k5 : At (Wr.putObj w3.heap.size (.deferred none)) (q + 1) 3 #[.int .i64 y.1] := (World.putObj_heap_other (by omega)).trans hA2
      have k6 : At (Wr.putObj w3.heap.size (.deferred none)) (q + 2) 51 #[.int .i64 10] := (World.putObj_heap_other (by omega)).trans hE2
      have k3 := k5.cell 0
      have k4 := k6.cell 0
      simp at k3 k4
      have hBA : Below w.heap.size w (Wr.putObj w3.heap.size (.deferred none)) := hB2.grown (grownBy_putObj' _ _ _) hB2.size (fun r e => by cases e; omega)
      clear hI2 hbad hI0' hrun' hw3' hx hg hy hup hu1 hu3 hA2 hE2
      gi_wp2
      refine ⟨by simp, .inl ⟨_, _, rfl, run_takeDeferred hD, ?_⟩⟩
      exact ⟨.tuple #[.int .i64 y.1, .int .i64 10], by simp [results, Tryz.results92, go_sem, k3, k4], ret_ii hw.out.1.symm hw.out.2.symm, hBA⟩
end Go.Proofs.YteclpblfleakhaaGreatDoor.Load
namespace Go.Proofs.YteclpblfleakhaaGreatDoor.Ins
open Go.RowKit Go.Sort Go.Proofs.YteclpblfleakhaaGreatDoor.Mem Go.Proofs.YteclpblfleakhaaGreatDoor.Route Go.Proofs.YteclpblfleakhaaGreatDoor.When Go.Proofs.YteclpblfleakhaaGreatDoor.Load
set_option linter.unusedVariables false
theorem ret_ii {a b c d : Int} (h : a = b) (h2 : c = d) : Ending.returned (.tuple #[.int .i64 a, .int .i64 c]) = .returned (.tuple #[.int .i64 b, .int .i64 d]) := by rw [h, h2]
theorem i64_of {t : List Rq} {r : Int} (ht : t.length ≤ maxLen) (h : inT t r = true) : I64 r := by
 have := inT_iff.1 h
 unfold maxLen at ht
 exact ⟨by omega, by omega⟩
set_option maxRecDepth 100000 in
set_option maxHeartbeats 4000000 in
theorem Rise_any (v : Vh) (vl vt : Value) (l : List (Int × Int)) (t : List Rq) (hl : l.length ≤ 1000000) (hnum : Nums l) (r i j : Int) (w : World) (hsg : Sg w) (hL : Row w.heap.size w vl l) (hT : Rqs w.heap.size w vt t) :
 Calls Tryz.prog 75 #[.agg #[.int .i64 v.hx, .int .i64 v.hy, .int .i64 v.cp, .int .i64 v.st, .int .i64 v.en], vl, vt, .int .i64 r, .int .i64 i, .int .i64 j] w fun e w' =>
  e = .returned (.tuple #[.int .i64 (riseV v l t r i j), .int .i64 (riseE v l t r i j)]) ∧ Below w.heap.size w w' := by
 obtain ⟨w0, hw0⟩ : ∃ w0, w.alloc (.cells #[.int .i64 v.hx, .int .i64 v.hy, .int .i64 v.cp, .int .i64 v.st, .int .i64 v.en] 32) = w0 := ⟨_, rfl⟩
 obtain ⟨q, hq⟩ : ∃ q, w.heap.size = q := ⟨_, rfl⟩
 have hB0 : Below q w w0 := by rw [← hw0]; exact (Below.refl _ _).alloc (by omega) _
 have hP : At w0 q 32 #[.int .i64 v.hx, .int .i64 v.hy, .int .i64 v.cp, .int .i64 v.st, .int .i64 v.en] := by rw [← hw0]; exact At.new_ _ _ _ hq.symm
 have hsg0 : Sg w0 := hsg.on (by rw [hq]; exact hB0)
 rw [hq] at hL hT
 have hs0 : q < w0.heap.size := hP.inside
 have hW := with_any v vl vt l t hl hnum r i j w0 ((hL.keep hB0 (Nat.le_refl _)).more (by omega)) ((hT.keep hB0 (Nat.le_refl _)).more (by omega))
 obtain ⟨xl, Nl, capl, rfl, hNl, hl0, hlc1, hlc2⟩ := hL.opened
 obtain ⟨xt, Nt, capt, rfl, hNt0, htc1, htc2, ht0⟩ := hT.opened
 have hNt := Lib.hid hNt0
 have hI : Hid (inT t r = true → I64 r) := Lib.hid (i64_of (by rw [hNt0]; omega))
 have hT' := Lib.hid hT
 have hnum' := Lib.hid hnum
 have p0 := hP.cell 0
 have p1 := hP.cell 1
 have p2 := hP.cell 2
 have p3 := hP.cell 3
 have p4 := hP.cell 4
 simp at p0 p1 p2 p3 p4
 have hP' := Lib.hid hP
 have hB0' := Lib.hid hB0
 have hsg0' := Lib.hid hsg0
 have hq' := Lib.hid hq
 have hw0' := Lib.hid hw0
 obtain ⟨E, hE⟩ : ∃ E, withE v l t r i j = E := ⟨_, rfl⟩
 obtain ⟨H, hH⟩ : ∃ H, endW v l t r i j = H := ⟨_, rfl⟩
 rw [hE, hH] at hW
 have hE' := Lib.hid hE
 have hH' := Lib.hid hH
 clear hL hT hNt0 ht0 hl0 hl hnum hP hB0 hsg hsg0 hq hw0 hE hH
 go_enter Tryz.func75, Tryz.ntmps75
 go_wp2_with fail
 try simp only [hq'.out]
 try rw [hw0'.out]
 refine hW.mono ?_
 clear hW p0 p1 p2 p3 p4
 rintro e w1 ⟨⟨u, rfl, hu⟩, hb1⟩
 have hB1 := Lib.hid (hB0'.out.trans (hb1.mono (by omega : q ≤ w0.heap.size)))
 have hP1 := Lib.hid (hP'.out.keep hb1 hs0)
 have hsg1 := Lib.hid (hsg0'.out.on hb1)
 have hs1 : q < w1.heap.size := hP1.out.inside
 have hu' := Lib.hid hu
 clear hu hb1 hs0
 cases he0 : (E == 0)
 · have he1 : (E != 0) = true := by simpa using he0
   have he : Hid (riseE v l t r i j = E ∧ riseE v l t r i j ≠ 0) := Lib.hid (by
    have h1 : withE v l t r i j ≠ 0 := by rw [hE'.out]; simpa using he0
    rw [riseE_with h1, hE'.out]
    exact ⟨rfl, by simpa using he0⟩)
   go_wp2
   refine bodyPost_ret (v := .tuple #[.int .i64 0, .int .i64 E]) (by simp [results, Tryz.results75, go_sem]) rfl ?_
   exact ⟨ret_ii (riseV_no he.out.2).symm he.out.1.symm, by first | exact hB1.out | (rw [hq'.out]; exact hB1.out)⟩
 have he1 : (E != 0) = false := by simpa using he0
 have hz : Hid (withE v l t r i j = 0) := Lib.hid (by rw [hE'.out]; simpa using he0)
 have hzz := withE_zero hz.out
 have hmr : Row w1.heap.size w1 u (moreL l r i j) := by have := hu'.out; unfold WithOk at this; rwa [if_pos hz.out] at this
 have hmn : Nums (moreL l r i j) := moreL_nums hnum'.out (hI.out (by have := hzz.1; simp only [Bool.and_eq_true] at this; exact this.1))
 have hml : (moreL l r i j).length ≤ 1000000 := by rw [moreL_length hzz.2.2.2.2]; have := hzz.2.2.1; omega
 obtain ⟨m, hm⟩ : ∃ m, moreL l r i j = m := ⟨_, rfl⟩
 rw [hm] at hmr hmn hml
 have hm' := Lib.hid hm
 have hmr' := Lib.hid hmr
 have hmn' := Lib.hid hmn
 have hml' := Lib.hid hml
 have hHz : Hid (H = homeT v l t) := Lib.hid (by rw [← hH'.out]; exact endW_yes hz.out)
 have hHb : 0 ≤ H ∧ H ≤ 3000000 := by rw [hHz.out]; exact homeT_bd v l t
 have hF := Fits_any v u _ m t hml hmn w1 hsg1.out hmr ((hT'.out.keep hB1.out (Nat.le_refl _)).more (by omega))
 obtain ⟨xu, Nu, cu, rfl, -⟩ := hmr.opened
 have p0 := hP1.out.cell 0
 have p1 := hP1.out.cell 1
 have p2 := hP1.out.cell 2
 have p3 := hP1.out.cell 3
 have p4 := hP1.out.cell 4
 simp at p0 p1 p2 p3 p4
 obtain ⟨F, hFe⟩ : ∃ F, fitE v m t = F := ⟨_, rfl⟩
 obtain ⟨G, hGe⟩ : ∃ G, fitAt v m t = G := ⟨_, rfl⟩
 rw [hFe, hGe] at hF
 have hFe' := Lib.hid hFe
 clear hmr hmn hml hm hzz hFe hGe
 go_wp2_with fail
 refine hF.mono ?_
 clear hF p0 p1 p2 p3 p4
 rintro e w2 ⟨rfl, hb2⟩
 have hB2 := Lib.hid (hB1.out.trans (hb2.mono (by omega : q ≤ w1.heap.size)))
 have hP2 := Lib.hid (hP1.out.keep hb2 hs1)
 have hs2 : q < w2.heap.size := hP2.out.inside
 have hmr2 := Lib.hid (hmr'.out.on hb2)
 clear hb2 hs1
 cases hf0 : (F == 0)
 · have hf1 : (F != 0) = true := by simpa using hf0
   have he : Hid (riseE v l t r i j = F ∧ riseE v l t r i j ≠ 0) := Lib.hid (by
    have h1 : fitE v (moreL l r i j) t ≠ 0 := by rw [hm'.out, hFe'.out]; simpa using hf0
    rw [riseE_fit hz.out h1, hm'.out, hFe'.out]
    exact ⟨rfl, by simpa using hf0⟩)
   go_wp2
   refine bodyPost_ret (v := .tuple #[.int .i64 0, .int .i64 F]) (by simp [results, Tryz.results75, go_sem]) rfl ?_
   exact ⟨ret_ii (riseV_no he.out.2).symm he.out.1.symm, by first | exact hB2.out | (rw [hq'.out]; exact hB2.out)⟩
 have hf1 : (F != 0) = false := by simpa using hf0
 have hfz : Hid (fitE v (moreL l r i j) t = 0) := Lib.hid (by rw [hm'.out, hFe'.out]; simpa using hf0)
 have hTi := Times_all v _ _ m t hml'.out hmn'.out w2 hmr2.out ((hT'.out.keep hB2.out (Nat.le_refl _)).more (by omega))
 have p0 := hP2.out.cell 0
 have p1 := hP2.out.cell 1
 have p2 := hP2.out.cell 2
 have p3 := hP2.out.cell 3
 have p4 := hP2.out.cell 4
 simp at p0 p1 p2 p3 p4
 obtain ⟨K, hKe⟩ : ∃ K, errT v m t = K := ⟨_, rfl⟩
 obtain ⟨L, hLe⟩ : ∃ L, homeT v m t = L := ⟨_, rfl⟩
 rw [hKe, hLe] at hTi
 have hLb : 0 ≤ L ∧ L ≤ 3000000 := by rw [← hLe]; exact homeT_bd v m t
 have hKe' := Lib.hid hKe
 have hLe' := Lib.hid hLe
 clear hKe hLe
 go_wp2_with fail
 refine hTi.mono ?_
 clear hTi p0 p1 p2 p3 p4
 rintro e w3 ⟨⟨u3, rfl, hu3, _⟩, hb3⟩
 have hB3 := Lib.hid (hB2.out.trans (hb3.mono (by omega : q ≤ w2.heap.size)))
 obtain ⟨x3, N3, c3, rfl, -⟩ := hu3.opened
 clear hb3 hs2 hu3
 have hre : Hid (riseE v l t r i j = K) := Lib.hid (by rw [riseE_err hz.out hfz.out, hm'.out, hKe'.out])
 cases hk0 : (K == 0)
 · have hk1 : (K != 0) = true := by simpa using hk0
   have he : Hid (riseE v l t r i j ≠ 0) := Lib.hid (by rw [hre.out]; simpa using hk0)
   go_wp2
   refine bodyPost_ret (v := .tuple #[.int .i64 0, .int .i64 K]) (by simp [results, Tryz.results75, go_sem]) rfl ?_
   exact ⟨ret_ii (riseV_no he.out).symm hre.out.symm, by first | exact hB3.out | (rw [hq'.out]; exact hB3.out)⟩
 have hk1 : (K != 0) = false := by simpa using hk0
 have he : Hid (riseE v l t r i j = 0) := Lib.hid (by rw [hre.out]; simpa using hk0)
 have hv : Hid (riseV v l t r i j = L - H) := Lib.hid (by rw [riseV_ok he.out, hm'.out, hLe'.out, hHz.out])
 go_wp2
 refine bodyPost_ret (v := .tuple #[.int .i64 (L - H), .int .i64 0]) (by simp [results, Tryz.results75, go_sem]) rfl ?_
 exact ⟨ret_ii hv.out.symm he.out.symm, by first | exact hB3.out | (rw [hq'.out]; exact hB3.out)⟩
end Go.Proofs.YteclpblfleakhaaGreatDoor.Ins
namespace Go.Proofs.YteclpblfleakhaaGreatDoor.Cheap
open Go.RowKit Go.Sort Go.Proofs.YteclpblfleakhaaGreatDoor.Mem Go.Proofs.YteclpblfleakhaaGreatDoor.Order Go.Proofs.YteclpblfleakhaaGreatDoor.Route Go.Proofs.YteclpblfleakhaaGreatDoor.When Go.Proofs.YteclpblfleakhaaGreatDoor.Load Go.Proofs.YteclpblfleakhaaGreatDoor.Ins
set_option linter.unusedVariables false
def wyC (y : Wy) : List Value := [.int .i64 y.i, .int .i64 y.j, .int .i64 y.n]
def flatW (l : List Wy) : List Value := (l.map wyC).flatten
def Wys (B : Nat) (W : World) (v : Value) (l : List Wy) : Prop := RowB B W v 3 (l.map wyC)
theorem Wys.of_owns {B : Nat} {W : World} {base n : Nat} {e : TypeId} {v : Value} {l : List Wy} (h : W.ownsRow base e 3 v n (flatW l)) (hn : n = l.length) (hB : W.heap.size ≤ B) : Wys B W v l :=
 RowB.of_owns h (by simpa using hn) (fun r hr => by obtain ⟨s, _, rfl⟩ := List.mem_map.1 hr; rfl) hB
theorem Wys.at {B : Nat} {W : World} {x : Option Addr} {n cap : Nat} {l : List Wy} (h : Wys B W (.slice x n cap) l) {k : Nat} {y : Wy} (hk : l[k]? = some y) :
 ∃ g o, x = some ⟨g, o, none⟩ ∧ g < B ∧ W.cell? ⟨g, o + k * 3, none⟩ = some (.int .i64 y.i) ∧ W.cell? ⟨g, o + k * 3 + 1, none⟩ = some (.int .i64 y.j) ∧ W.cell? ⟨g, o + k * 3 + 2, none⟩ = some (.int .i64 y.n) := by
 obtain ⟨g, o, e, hg, hc⟩ := RowB.row h (j := k) (r := wyC y) (by rw [List.getElem?_map, hk]; rfl)
 exact ⟨g, o, e, hg, hc 0 _ rfl, hc 1 _ rfl, hc 2 _ rfl⟩
theorem Wys.keep {B C : Nat} {W W' : World} {v : Value} {l : List Wy} (h : Wys B W v l) (hb : Below C W W') (hB : B ≤ C) : Wys B W' v l := RowB.keep h hb hB
theorem Wys.opened {B : Nat} {W : World} {v : Value} {t : List Wy} (h : Wys B W v t) : ∃ x N cap, v = .slice x N cap ∧ t.length = N ∧ N ≤ cap ∧ cap ≤ maxLen := by
 obtain ⟨x, cap, rfl, h1, h2, h0, _⟩ := h
 exact ⟨x, t.length, cap, by simp, rfl, by simpa using h1, h2⟩
end Go.Proofs.YteclpblfleakhaaGreatDoor.Cheap
namespace Go.Proofs.YteclpblfleakhaaGreatDoor.Plan
open Go.RowKit Go.Proofs.YteclpblfleakhaaGreatDoor.Order Go.Proofs.YteclpblfleakhaaGreatDoor.Place Go.Proofs.YteclpblfleakhaaGreatDoor.Route Go.Proofs.YteclpblfleakhaaGreatDoor.When Go.Proofs.YteclpblfleakhaaGreatDoor.Load Go.Proofs.YteclpblfleakhaaGreatDoor.Feas Go.Proofs.YteclpblfleakhaaGreatDoor.Ins Go.Proofs.YteclpblfleakhaaGreatDoor.Cheap
set_option linter.unusedVariables false
structure PutAt (S : St) (r : Int) (i : Nat) (v : Vh) (l m : List (Int × Int)) : Prop where
 idx : priceI S r = i
 vat : S.vs[i]? = some v
 lat : S.rows[i]? = some l
 best : bestE v l S.t r = 0
 rise : priceN S r = (bestW v l S.t r).n
 row : m = moreL l r (bestW v l S.t r).i (bestW v l S.t r).j
 may : mayW l r (bestW v l S.t r).i (bestW v l S.t r).j = true
 put : putS S r = { S with rows := S.rows.set i m }
 dr : Feas.Dr v m S.t
 err : errT v m S.t = 0
 fit : fitE v m S.t = 0
 nums : Nums m
 home : homeT v m S.t - homeT v l S.t = priceN S r
 back : woL r m = l
 len : l.length ≤ 14
theorem put_at {S : St} (h : Ok S) {r : Int} (hp : priceE S r = 0) : ∃ i v l m, PutAt S r i v l m := by
 obtain ⟨i, v, l, h1, h2, h3, h4, h5⟩ := price_at hp
 obtain ⟨b1, b2⟩ := best_in h4
 have hz := riseE_zero b1
 have hw := withE_zero hz.1
 obtain ⟨hd, he, hf, hn⟩ := h.dr i v l h2 h3
 have hpz := priceE_zero hp
 have hin := inT_iff.1 hpz.1
 refine ⟨i, v, l, _, h1, h2, h3, h4, h5, rfl, hw.2.2.2.2, putS_yes hp h1 h2 h3, moreDr hd hw.2.2.2.2 hin.2 hw.2.2.1, hz.2.2, hz.2.1, moreL_nums hn ?_, ?_, wo_with hw.2.2.2.2, hw.2.2.1⟩
 · have := h.tl
   exact ⟨by omega, by omega⟩
 · rw [h5, b2, riseV_ok b1]
theorem PutAt.rise_nn {S : St} {r : Int} {i : Nat} {v : Vh} {l m : List (Int × Int)} (h : PutAt S r i v l m) (he : errT v l S.t = 0) : 0 ≤ priceN S r := by
 have := less_home h.dr r h.err (by rw [h.back]; exact he)
 rw [h.back] at this
 have := h.home
 omega
theorem set_get {α : Type} {xs : List α} {i j : Nat} {x y : α} (hi : i < xs.length) (h : (xs.set i x)[j]? = some y) : (j = i ∧ y = x) ∨ (j ≠ i ∧ xs[j]? = some y) := by
 by_cases e : j = i
 · subst e
   rw [List.getElem?_set_self hi] at h
   exact .inl ⟨rfl, (Option.some.inj h).symm⟩
 · rw [List.getElem?_set_ne (fun e' => e e'.symm)] at h
   exact .inr ⟨e, h⟩
theorem Ok.set {S : St} (h : Ok S) {i : Nat} {v : Vh} {l m : List (Int × Int)} (hv : S.vs[i]? = some v) (hl : S.rows[i]? = some l) (hd : Feas.Dr v m S.t) (he : errT v m S.t = 0) (hf : fitE v m S.t = 0) (hn : Nums m)
 (h1 : ∀ j k r, j ≠ i → S.rows[j]? = some k → noR r m = false → noR r k = true) : Ok { S with rows := S.rows.set i m } := by
 have hi := (List.getElem?_eq_some_iff.1 hl).1
 refine ⟨by simp [h.len], h.cnt, h.tl, fun j v' l' hv' hl' => ?_, fun j k a b r ha hb hra hrb => ?_⟩
 · rcases set_get hi hl' with ⟨rfl, rfl⟩ | ⟨_, h3⟩
   · obtain rfl : v = v' := Option.some.inj (hv.symm.trans hv')
     exact ⟨hd, he, hf, hn⟩
   · exact h.dr j v' l' hv' h3
 · rcases set_get hi ha with ⟨rfl, rfl⟩ | ⟨hj, h3⟩
   · rcases set_get hi hb with ⟨rfl, rfl⟩ | ⟨hk, h4⟩
     · rfl
     · rw [h1 k b r hk h4 hra] at hrb; cases hrb
   · rcases set_get hi hb with ⟨rfl, rfl⟩ | ⟨hk, h4⟩
     · rw [h1 j a r hj h3 hrb] at hra; cases hra
     · exact h.one j k a b r h3 h4 hra hrb
theorem PutAt.ok {S : St} (h : Ok S) {r : Int} {i : Nat} {v : Vh} {l m : List (Int × Int)} (p : PutAt S r i v l m) (hw : whereV S.rows r < 0) : Ok (putS S r) := by
 rw [p.put]
 refine h.set p.vat p.lat p.dr p.err p.fit p.nums fun j k q hj hk hq => ?_
 rw [p.row, noR_moreL p.may] at hq
 cases e : noR q k
 · exfalso
   by_cases hqr : q = r
   · have := where_neg.1 hw k (List.mem_of_getElem? hk)
     rw [hqr, this] at e
     cases e
   · have hl : noR q l = false := by simpa [hqr] using hq
     exact hj (h.one j i k l q hk p.lat e hl)
 · rfl
theorem put_ok {S : St} (h : Ok S) (r : Int) : Ok (putS S r) := by
 by_cases hp : priceE S r = 0
 · obtain ⟨i, v, l, m, p⟩ := put_at h hp
   exact p.ok h (priceE_zero hp).2.1
 · rw [putS_no hp]; exact h
theorem PutAt.tot {S : St} {r : Int} {i : Nat} {v : Vh} {l m : List (Int × Int)} (p : PutAt S r i v l m) : totS (putS S r) = totS S + priceN S r := by
 rw [p.put]
 unfold totS
 rw [totR_set S.t m p.vat p.lat, p.home]
theorem put_tot {S : St} (h : Ok S) (r : Int) : totS (putS S r) = totS S + priceN S r ∧ 0 ≤ priceN S r := by
 by_cases hp : priceE S r = 0
 · obtain ⟨i, v, l, m, p⟩ := put_at h hp
   exact ⟨p.tot, p.rise_nn (h.dr i v l p.vat p.lat).2.1⟩
 · rw [putS_no hp, (price_no hp).2]; omega
theorem PutAt.where_ {S : St} {r : Int} {i : Nat} {v : Vh} {l m : List (Int × Int)} (p : PutAt S r i v l m) (hw : whereV S.rows r < 0) : whereV (putS S r).rows r = i := by
 rw [p.put]
 have hi := (List.getElem?_eq_some_iff.1 p.lat).1
 refine where_at (l := m) (by show (S.rows.set i m)[i]? = some m; rw [List.getElem?_set_self hi]) (by rw [p.row, noR_moreL p.may]; simp) fun x hx => ?_
 have hx' : x ∈ S.rows.take i := by
  show x ∈ _
  have : (S.rows.set i m).take i = S.rows.take i := by rw [List.take_set_of_le (Nat.le_refl _)]
  rw [this] at hx
  exact hx
 exact where_neg.1 hw x (List.mem_of_mem_take hx')
structure TakeAt (S : St) (r : Int) (i : Nat) (v : Vh) (l : List (Int × Int)) : Prop where
 idx : whereV S.rows r = i
 vat : S.vs[i]? = some v
 lat : S.rows[i]? = some l
 has : noR r l = false
 take : takeS S r = { S with rows := S.rows.set i (woL r l) }
 dr : Feas.Dr v (woL r l) S.t
 err : errT v (woL r l) S.t = 0
 fit : fitE v (woL r l) S.t = 0
 nums : Nums (woL r l)
 home : homeT v (woL r l) S.t ≤ homeT v l S.t
theorem take_at {S : St} (h : Ok S) {r : Int} (hw : 0 ≤ whereV S.rows r) : ∃ i v l, TakeAt S r i v l := by
 obtain ⟨i, l, e, h1, h2, -⟩ := where_some hw
 have hi : i < S.vs.length := by rw [← h.len]; exact (List.getElem?_eq_some_iff.1 h1).1
 have hv : S.vs[i]? = some S.vs[i] := List.getElem?_eq_getElem hi
 obtain ⟨hd, he, hf, hn⟩ := h.dr i _ l hv h1
 have hless := less_fault hd r ((fault_iff hd).2 ⟨he, hf⟩)
 exact ⟨i, _, l, e, hv, h1, h2, takeS_yes e h1, hd.less r, hless.1, hless.2, nums_less hn, less_home hd r he hless.1⟩
theorem TakeAt.ok {S : St} (h : Ok S) {r : Int} {i : Nat} {v : Vh} {l : List (Int × Int)} (p : TakeAt S r i v l) : Ok (takeS S r) := by
 rw [p.take]
 refine h.set p.vat p.lat p.dr p.err p.fit p.nums fun j k q hj hk hq => ?_
 rw [noR_woL] at hq
 cases e : noR q k
 · exfalso
   have hl : noR q l = false := by simp only [Bool.or_eq_false_iff] at hq; exact hq.2
   exact hj (h.one j i k l q hk p.lat e hl)
 · rfl
theorem take_ok {S : St} (h : Ok S) (r : Int) : Ok (takeS S r) := by
 by_cases hw : 0 ≤ whereV S.rows r
 · obtain ⟨i, v, l, p⟩ := take_at h hw
   exact p.ok h
 · rw [takeS_no (by omega)]; exact h
theorem take_gone {S : St} (h : Ok S) (r : Int) : whereV (takeS S r).rows r < 0 := by
 by_cases hw : 0 ≤ whereV S.rows r
 · obtain ⟨i, v, l, p⟩ := take_at h hw
   rw [p.take, where_neg]
   intro x hx
   obtain ⟨j, hj, e⟩ := List.getElem_of_mem hx
   have hg : (S.rows.set i (woL r l))[j]? = some x := by rw [← e]; exact List.getElem?_eq_getElem hj
   rcases set_get (List.getElem?_eq_some_iff.1 p.lat).1 hg with ⟨rfl, rfl⟩ | ⟨hji, h3⟩
   · rw [noR_woL]; simp
   · cases e2 : noR r x
     · exact absurd (h.one j i x l r h3 p.lat e2 p.has) hji
     · rfl
 · rw [takeS_no (by omega)]; omega
theorem putS_t (S : St) (r : Int) : (putS S r).t = S.t ∧ (putS S r).vs = S.vs := by
 unfold putS
 split
 · split <;> exact ⟨rfl, rfl⟩
 · exact ⟨rfl, rfl⟩
theorem takeS_t (S : St) (r : Int) : (takeS S r).t = S.t ∧ (takeS S r).vs = S.vs := by
 unfold takeS
 split
 · split <;> exact ⟨rfl, rfl⟩
 · exact ⟨rfl, rfl⟩
def newS (vs : List Vh) (t : List Rq) : St := ⟨vs, t, vs.map fun _ => []⟩
theorem new_ok {vs : List Vh} {t : List Rq} (hc : 1 ≤ vs.length ∧ vs.length ≤ 4) (ht : t.length ≤ 1000) (hq : ∀ q ∈ t, q.chk = 0) (hv : ∀ v ∈ vs, v.chk = 0) (he : ∀ v ∈ vs, errT v [] t = 0 ∧ fitE v [] t = 0) : Ok (newS vs t) := by
 have hrow : ∀ (i : Nat) l, (newS vs t).rows[i]? = some l → l = [] := fun i l h => by
  unfold newS at h
  simp only [List.getElem?_map, Option.map_eq_some_iff] at h
  obtain ⟨_, _, e⟩ := h
  exact e.symm
 refine ⟨by simp [newS], hc, ht, fun i v l hv' hl' => ?_, fun i j l m r hl hm h1 h2 => ?_⟩
 · obtain rfl := hrow i l hl'
   have hmem : v ∈ vs := List.mem_of_getElem? hv'
   exact ⟨⟨hv v hmem, hq, rfl, by simp, fun s hs => by cases hs⟩, (he v hmem).1, (he v hmem).2, fun s hs => by cases hs⟩
 · obtain rfl := hrow i l hl
   cases h1
end Go.Proofs.YteclpblfleakhaaGreatDoor.Plan

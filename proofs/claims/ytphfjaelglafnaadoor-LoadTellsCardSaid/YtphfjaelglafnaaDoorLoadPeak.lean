/-
  The contracts of package load's Peak and Fits.
-/
import Derived.Test.YtphfjaelglafnaaDoorLoadProf
namespace Go.Proofs.YtphfjaelglafnaaDoor.Load
open Go.RowKit Go.Shelf Go.Proofs.YtphfjaelglafnaaDoor.Mem Go.Proofs.YtphfjaelglafnaaDoor.Route Go.Proofs.YtphfjaelglafnaaDoor.When Go.Proofs.YtphfjaelglafnaaDoor.Up
set_option linter.unusedVariables false

attribute [local go_sem] Oper.semAt_some

theorem ret_ii {k j : IntKind} {a b c d : Int} (h : a = b) (h2 : c = d) : Ending.returned (.tuple #[.int k a, .int j c]) = .returned (.tuple #[.int k b, .int j d]) := by rw [h, h2]

structure PeakI (w : World) (p : Nat) (vl vt : Value) (pre : List (Int × Int)) (W : World) : Prop where
  top : At W p 3 #[.int .i64 (peakL (pre.map (·.2)))]
  hl : At W (p + 1) 26 #[vl]
  ht : At W (p + 2) 33 #[vt]
  below : Below w.heap.size w W
theorem PeakI.old {w : World} {p : Nat} {vl vt : Value} {m : Nat} (hm : w.heap.size ≤ m) : Old m (PeakI w p vl vt) := by
  rintro pre A A' row h hg hr
  exact ⟨cellsOld h.top hg hr, cellsOld h.hl hg hr, cellsOld h.ht hg hr, h.below.grown hg h.below.size (fun k e => by have := (hr k e).1; omega)⟩
theorem PeakI.next {w : World} {p : Nat} {vl vt : Value} {pre : List (Int × Int)} {W : World} (h : PeakI w p vl vt pre W) (y : Int × Int) (hp : w.heap.size ≤ p) (X : Int) (hX : X = max (peakL (pre.map (·.2))) y.2) : PeakI w p vl vt (pre ++ [y]) (W.setCell ⟨p, 0, none⟩ (.int .i64 X)) := by
  refine ⟨?_, h.hl.far (by omega) _ _, h.ht.far (by omega) _ _, h.below.setCell (by simp; omega) _⟩
  have := h.top.put 0 (.int .i64 X)
  rw [List.map_append, List.map_singleton, peakL_snoc, ← hX]
  simpa using this

set_option maxRecDepth 100000 in
set_option maxHeartbeats 4000000 in
theorem Peak_any (vl vt : Value) (l : List (Int × Int)) (t : List Rq) (hl : l.length ≤ 1000000) (hnum : Nums l) (w : World) (hsg : Sg w) (hL : Row w.heap.size w vl l) (hT : Rqs w.heap.size w vt t) :
    Calls Tryd.prog 10 #[vl, vt] w fun e w' => e = .returned (.tuple #[.int .i64 (peakV l t), .int .i64 (toldV l t)]) ∧ Below w.heap.size w w' := by
  have hc := check_any vl vt l t hl hnum w hL hT
  obtain ⟨xl, Nl, capl, rfl, hNl, hl0, hlc1, hlc2⟩ := hL.opened
  obtain ⟨xt, Nt, capt, rfl, hNt0, htc1, htc2, ht0⟩ := hT.opened
  unfold maxLen at hlc2
  have hL' := Lib.hid hL
  have hT' := Lib.hid hT
  obtain ⟨E, hE⟩ : ∃ E, toldV l t = E := ⟨_, rfl⟩
  rw [hE] at hc ⊢
  have hE' := Lib.hid hE
  clear hL hT hNt0 ht0 hl hnum hE
  refine (callsIn_wide (n := 3)).1 ?_
  refine callsIn_of_wp_marks Tryd.func10 rfl trivial ?_ rfl
  simp only [Tryd.ntmps10, List.size_toArray, List.length_cons, List.length_nil, Nat.reduceAdd, Nat.reduceSub, Array.replicate_succ, Array.replicate_zero, List.push_toArray, List.append_toArray, List.nil_append, List.cons_append]
  gi_wp2_with fail
  refine ⟨trivial, ?_⟩
  refine (callsIn_wide.2 hc).mono ?_
  clear hc
  rintro e w1 ⟨rfl, hB⟩
  cases he0 : (E == 0)
  · have he1 : (E != 0) = true := by simpa using he0
    have hw : Hid (peakV l t = 0) := Lib.hid (by
      unfold peakV profV
      rw [if_neg (by rw [hE'.out]; simpa using he0)]
      rfl)
    gi_wp2
    refine ⟨.tuple #[.int .i64 0, .int .i64 E], by simp [results, Tryd.results10, go_sem], ret_ii hw.out.symm rfl, hB⟩
  · have he1 : (E != 0) = false := by simpa using he0
    have hez : Hid (E = 0) := Lib.hid (by simpa using he0)
    have htz : Hid (toldV l t = 0) := Lib.hid (hE'.out.trans hez.out)
    obtain ⟨p, hp⟩ : ∃ p, w1.heap.size = p := ⟨_, rfl⟩
    obtain ⟨w2, hw2⟩ : ∃ w2, w1.alloc (.cells #[.int .i64 0] 3) = w2 := ⟨_, rfl⟩
    have hs2 : w2.heap.size = p + 1 := by rw [← hw2, ← hp]; simp
    obtain ⟨w3, hw3⟩ : ∃ w3, (w2.alloc (.cells #[.slice xl Nl capl] 26)).alloc (.cells #[.slice xt Nt capt] 33) = w3 := ⟨_, rfl⟩
    have hs3 : w3.heap.size = p + 3 := by rw [← hw3]; simp [hs2]
    have hsz : w.heap.size ≤ p := by rw [← hp]; exact hB.size
    have hI0 : PeakI w p (.slice xl Nl capl) (.slice xt Nt capt) [] w3 := by
      rw [← hw3]
      refine ⟨?_, (At.new_ _ _ _ (by rw [hs2])).alloc _, At.new_ _ _ _ (by simp [hs2]), ?_⟩
      · rw [← hw2]; exact ((At.new_ _ _ _ hp.symm).alloc _).alloc _
      · rw [← hw2]; exact ((hB.alloc hB.size _).alloc (by simp; omega) _).alloc (by simp; omega) _
    have hrun := board_runs l t htz.out (.slice xl Nl capl) (.slice xt Nt capt) (p + 1) (p + 2) w.heap.size (w3.heap.size + 2) (by omega) (fun _ => true) (PeakI w p (.slice xl Nl capl) (.slice xt Nt capt))
      (fun q A hA => ⟨hA.hl, hA.ht, hL'.out.keep hA.below (Nat.le_refl _), hT'.out.keep hA.below (Nat.le_refl _), hsg.on hA.below⟩)
    have hprf := Lib.hid (prs_snd t l)
    have hpv : Hid (peakV l t = peakL (prof t l)) := Lib.hid (by unfold peakV profV; rw [if_pos htz.out])
    have hI0' := Lib.hid hI0
    have hrun' := Lib.hid hrun
    have hw2' := Lib.hid hw2
    have hw3' := Lib.hid hw3
    have hp' := Lib.hid hp
    clear hI0 hrun hw2 hw3 hp
    gi_wp2_with fail
    refine ⟨trivial, ?_⟩
    simp only [hp'.out]
    rw [hw2'.out]
    refine (callsIn_wide.2 (onBoard_any xl xt Nl capl Nt capt w2)).mono ?_
    rintro e w3' ⟨rfl, hw3⟩
    obtain rfl : w3 = w3' := hw3'.out.symm.trans hw3
    clear hw3
    rw [hs2]
    gi_wp2_with fail
    refine rangesRound2 (gf := 42) (fst := #[]) (lb := #[.pointer (some ⟨p + 1, 0, none⟩), .pointer (some ⟨p + 2, 0, none⟩)]) rfl (enters_of Tryd.func42 (by kernel_rfl) rfl) (encs := encP) (good := fun _ => true) (xs := prs t l) (fun _ => rfl)
      (PeakI w p (.slice xl Nl capl) (.slice xt Nt capt)) (PeakI.old (by omega)) hI0'.out hrun'.out ?round ?done ?stop
    case round =>
      rintro l2 pre y Wr ⟨rest, hx⟩ hW2 - hg
      dsimp only [encP]
      clear hx
      gi_wp2
      refine ⟨gRefl _ _, fun Vr hVs hVb hI2 => ?_⟩
      have hI2' := Lib.hid hI2
      have r0 := hI2.top.cell 0
      have rf := hI2.top.free 0
      simp at r0
      have hpi := hI2.top.inside
      obtain ⟨M, hM⟩ : ∃ M, peakL (pre.map (·.2)) = M := ⟨_, rfl⟩
      rw [hM] at r0
      have hM' := Lib.hid hM
      clear hI2 hVb hg hI0' hrun' hw2' hw3' hM
      gi_wp2
      refine ⟨rfl, ?_, ?_⟩
      · exact PeakI.next hI2'.out y hsz _ (by rw [hM'.out])
      · exact Held.setCell _ (by omega) (by omega) _
    case done =>
      rintro Wr hW2 hI2 hall hD
      have hI2' := Lib.hid hI2
      have r0 := hI2.top.cell 0
      simp at r0
      have hpi := hI2.top.inside
      have hM : Hid (peakL ((prs t l).map (·.2)) = peakV l t) := Lib.hid (by rw [hpv.out, hprf.out])
      obtain ⟨M, hM1⟩ : ∃ M, peakL ((prs t l).map (·.2)) = M := ⟨_, rfl⟩
      rw [hM1] at r0
      have hM2 := Lib.hid hM1
      clear hI2 hall hI0' hrun' hw2' hw3' hM1
      gi_wp2
      refine ⟨by simp, .inl ⟨_, _, rfl, run_takeDeferred hD, ?_⟩⟩
      have hI4 : PeakI w p (.slice xl Nl capl) (.slice xt Nt capt) (prs t l) (Wr.putObj w3.heap.size (.deferred none)) :=
        PeakI.old (m := w.heap.size) (Nat.le_refl _) _ _ _ _ hI2'.out (grownBy_putObj' _ _ _) (fun r e => by cases e; exact ⟨by omega, _, hD, rfl⟩)
      exact ⟨.tuple #[.int .i64 M, .int .i64 0], by simp [results, Tryd.results10, go_sem], ret_ii (hM2.out.symm.trans hM.out) hez.out.symm, hI4.below⟩
    case stop =>
      rintro Wr hW2 hI2 hbad hD
      exact absurd (fun _ _ => rfl) hbad

end Go.Proofs.YtphfjaelglafnaaDoor.Load

/-
  Contract of package scene's Check.
-/
import Derived.Test.YtlkijbakfoabaaaDoorSceneLooks
namespace Go.Proofs.YtlkijbakfoabaaaDoor.Scene
open Go.RowKit Go.Shelf Go.Proofs.YtlkijbakfoabaaaDoor.Mem Go.Proofs.YtlkijbakfoabaaaDoor.Up
set_option linter.unusedVariables false

attribute [local go_sem] Oper.semAt_some

/-- An error is none, or a fault of package scene with just these numbers. -/
def ErrAt (W : World) (u : Value) (f : Int × Int × Int) : Prop :=
  (f.1 = 0 ∧ u = .nilIface) ∨ (f.1 ≠ 0 ∧ ∃ q, u = .iface 79 (.pointer (some ⟨q, 0, none⟩)) ∧ At W q 81 #[.int .i64 f.1, .int .i64 f.2.1, .int .i64 f.2.2])
theorem ErrAt.keep {B : Nat} {W W' : World} {u : Value} {f : Int × Int × Int} (h : ErrAt W u f) (hb : Below B W W') (hB : W.heap.size ≤ B) : ErrAt W' u f := by
  rcases h with h | ⟨h1, q, h2, h3⟩
  · exact .inl h
  · exact .inr ⟨h1, q, h2, h3.keep hb (by have := h3.inside; omega)⟩

theorem looks_any (v : Array Value) (w : World) :
    Calls Tryd.prog 24 #[.agg v] w fun e w' => e = .returned (.func (.func 33) #[] #[.pointer (some ⟨w.heap.size, 0, none⟩)]) ∧ w.alloc (.cells v 77) = w' := by
  go_enter Tryd.func24, Tryd.ntmps24
  go_wp2
  go_ret
  exact ⟨rfl, rfl⟩

/-- What Check's own memory holds when all of pre has been looked at. -/
structure ChkI (w : World) (Bv r : Nat) (v : Array Value) (pre : List (Int × Int × Int)) (W : World) : Prop where
  view : At W Bv 77 v
  res : ∃ u, At W r 39 #[u] ∧ ErrAt W u (firstBad pre)
  below : Below w.heap.size w W
theorem At.oldCells {A A' : World} {g n : Nat} {t : TypeId} {cs : Array Value} {row : Option Nat} (h : At A g t cs) (hg : A.grownBy A' row) (hr : ∀ r, row = some r → n ≤ r ∧ ∃ o, A.heap[r]? = some o ∧ o.isCells = false) : At A' g t cs :=
  (hg.block g h.inside (fun e => by
    obtain ⟨_, o, ho, hc⟩ := hr g e.symm
    have h' : A.heap[g]? = some (.cells cs t (0, 0)) := h
    rw [h'] at ho
    cases ho
    cases hc)).trans h
theorem ChkI.old {w : World} {Bv r n : Nat} {v : Array Value} (hn : w.heap.size ≤ n) : Old n (ChkI w Bv r v) := by
  rintro pre A A' row ⟨h1, ⟨u, h2, h3⟩, h4⟩ hg hr
  refine ⟨At.oldCells h1 hg hr, ⟨u, At.oldCells h2 hg hr, ?_⟩, h4.grown hg h4.size (fun k e => by have := (hr k e).1; omega)⟩
  rcases h3 with h3 | ⟨h5, q, h6, h7⟩
  · exact .inl h3
  · exact .inr ⟨h5, q, h6, At.oldCells h7 hg hr⟩

set_option maxRecDepth 100000 in
set_option maxHeartbeats 4000000 in
theorem Check_any (s : Sc) (hfair : Fair s) (vR vC vL vD : Value) (us : List (Value × Value)) (w : World) (h : SceneAt w.heap.size w vR vC vL vD us s) :
    Calls Tryd.prog 11 #[.agg #[vR, vC, vL, .int .i64 s.cm, .int .i64 s.rv, .int .i64 s.sch, vD]] w fun e w' =>
      (∃ u, e = .returned u ∧ ErrAt w' u (faultV s)) ∧ Below w.heap.size w w' := by
  have hRV := h.reqs
  have hCV := h.cars.row
  have hLV := h.lots
  have hDV := h.draws
  obtain ⟨xR, capR, rfl, _, _, _⟩ := hRV
  obtain ⟨xC, capC, rfl, _, _, _⟩ := hCV
  obtain ⟨xL, capL, rfl, _, _, _⟩ := hLV
  obtain ⟨xD, capD, rfl, _, _⟩ := hDV
  have h' := Lib.hid h
  have hfair' := Lib.hid hfair
  clear h hfair
  refine (callsIn_wide (n := 3)).1 ?_
  refine callsIn_of_wp_marks Tryd.func11 rfl trivial ?_ rfl
  simp only [Tryd.ntmps11, List.size_toArray, List.length_cons, List.length_nil, Nat.reduceAdd, Nat.reduceSub, Array.replicate_succ, Array.replicate_zero, List.push_toArray, List.append_toArray, List.nil_append, List.cons_append]
  gi_wp2_with fail
  refine ⟨trivial, ?_⟩
  obtain ⟨V, hV⟩ : ∃ V : Array Value, #[.slice xR s.reqs.length capR, .slice xC us.length capC, .slice xL s.lots.length capL, .int .i64 s.cm, .int .i64 s.rv, .int .i64 s.sch, .slice xD s.draws capD] = V := ⟨_, rfl⟩
  have hb1 : Below w.heap.size w (((w.alloc (.cells V 33)).alloc (.cells #[.nilIface] 39)).alloc (.cells V 77)) := (((Below.refl _ _).alloc (Nat.le_refl _) _).alloc (by simp) _).alloc (by simp; omega) _
  have hr1 : At (((w.alloc (.cells V 33)).alloc (.cells #[.nilIface] 39)).alloc (.cells V 77)) (w.heap.size + 1) 39 #[.nilIface] := (At.new_ _ _ _ (by simp)).alloc _
  have hv1 : At (((w.alloc (.cells V 33)).alloc (.cells #[.nilIface] 39)).alloc (.cells V 77)) (w.heap.size + 2) 77 V := At.new_ _ _ _ (by simp)
  have hs1 : (((w.alloc (.cells V 33)).alloc (.cells #[.nilIface] 39)).alloc (.cells V 77)).heap.size = w.heap.size + 3 := by simp
  have hs2 : ((w.alloc (.cells V 33)).alloc (.cells #[.nilIface] 39)).heap.size = w.heap.size + 2 := by simp
  rw [hV]
  have hV' := Lib.hid hV
  clear hV
  refine (callsIn_wide.2 (looks_any V _)).mono ?_
  rintro e w1 ⟨rfl, rfl⟩
  rw [hs2]
  generalize hw1 : (((w.alloc (.cells V 33)).alloc (.cells #[.nilIface] 39)).alloc (.cells V 77)) = w1 at *
  clear hw1 hs2
  have hI0 : ChkI w (w.heap.size + 2) (w.heap.size + 1) V [] w1 := ⟨hv1, ⟨_, hr1, .inl ⟨rfl, rfl⟩⟩, hb1⟩
  clear hv1 hr1 hb1
  have hI0' := Lib.hid hI0
  clear hI0
  gi_wp2_with fail
  refine rangesRound (gf := 33) (fst := #[]) (lb := #[.pointer (some ⟨w.heap.size + 2, 0, none⟩)]) rfl (enters_of Tryd.func33 (by kernel_rfl) rfl) (encs := enc3) (good := good3) (xs := allL s) (fun _ => rfl)
    (ChkI w (w.heap.size + 2) (w.heap.size + 1) V) (ChkI.old (by omega)) hI0'.out
    (looks_runs s hfair'.out _ _ _ _ us (w.heap.size + 2) w.heap.size _ (by omega) _ (fun p A hA => h'.out.keep hA.below (Nat.le_refl _)) (fun p A hA => by
      have := hA.view
      rw [← hV'.out] at this
      simpa using this)) ?round ?done ?stop
  case round =>
    rintro l2 pre x Wr hW2 - hg
    dsimp only [enc3]
    gi_wp2
    refine ⟨World.grownBy_alloc _ _ _, fun Vr hVs hVb hI2 => ?_⟩
    have hx : At Vr Wr.heap.size 43 #[.int .i64 x.1, .int .i64 x.2.1, .int .i64 x.2.2] := (hVb _ (by omega)).trans (At.new Wr _ _)
    have x0 := hx.cell 0
    have x1 := hx.cell 1
    have x2 := hx.cell 2
    simp at x0 x1 x2
    have hVs' : Wr.heap.size < Vr.heap.size := hx.inside
    obtain ⟨hi1, ⟨u, hi2, hi3⟩, hi4⟩ := hI2
    have hg' := Lib.hid hg
    have hin := hi2.inside
    clear hVb hVs hg
    cases hgood : good3 x
    · have hx0 : ¬ x.1 = 0 := by unfold good3 at hgood; simpa using hgood
      have hx1 : (x.1 == 0) = false := by simpa using hx0
      have hx2 : (x.1 != 0) = true := by simpa using hx0
      have hfin : ChkI w (w.heap.size + 2) (w.heap.size + 1) V (pre ++ [x]) ((Vr.setCell ⟨w.heap.size + 1, 0, none⟩ (.iface 79 (.pointer (some ⟨Vr.heap.size, 0, none⟩)))).alloc (.cells #[.int .i64 x.1, .int .i64 x.2.1, .int .i64 x.2.2] 81)) := by
        refine ⟨(hi1.far (by omega) _ _).alloc _, ⟨_, by simpa using (hi2.put 0 (.iface 79 (.pointer (some ⟨Vr.heap.size, 0, none⟩)))).alloc _, ?_⟩, (hi4.setCell (by simp) _).alloc (by simpa using hi4.size) _⟩
        rw [firstBad_snoc hg'.out, hgood]
        exact .inr ⟨hx0, _, rfl, At.new_ _ _ _ (by simp)⟩
      have hk : Kept w1.heap.size Vr ((Vr.setCell ⟨w.heap.size + 1, 0, none⟩ (.iface 79 (.pointer (some ⟨Vr.heap.size, 0, none⟩)))).alloc (.cells #[.int .i64 x.1, .int .i64 x.2.1, .int .i64 x.2.2] 81)) := (Kept.setCell _ (by omega) _).trans (Kept.alloc _ _ _)
      have hfin' := Lib.hid hfin
      have hk' := Lib.hid hk
      have hc := hi2.cell 0
      have hf := hi2.free 0
      simp at hc
      clear hfin hk hi1 hi2 hi3 hi4 hI0' hx0
      gi_wp2
      exact ⟨rfl, hfin'.out, hk'.out⟩
    · have hx0 : x.1 = 0 := by unfold good3 at hgood; simpa using hgood
      have hx1 : (x.1 == 0) = true := by simpa using hx0
      have hx2 : (x.1 != 0) = false := by simpa using hx0
      have hfin : ChkI w (w.heap.size + 2) (w.heap.size + 1) V (pre ++ [x]) Vr := ⟨hi1, ⟨u, hi2, by rw [firstBad_snoc hg'.out, hgood]; rw [firstBad_good hg'.out] at hi3; exact hi3⟩, hi4⟩
      have hfin' := Lib.hid hfin
      clear hfin hi1 hi2 hi3 hi4 hI0' hx0
      gi_wp2
      exact ⟨rfl, hfin'.out, Kept.refl _ _⟩
  case done =>
    rintro Wr hW2 hI2 hall hD
    have hn := hI0'.out.below.size
    obtain ⟨hi1, ⟨u, hi2, hi3⟩, hi4⟩ := hI2
    have hc := hi2.cell 0
    have hf := hi2.free 0
    simp at hc
    have hf0 : faultV s = (0, 0, 0) := firstBad_good hall
    clear hi3
    gi_wp2
    have hD2 : (Wr.setCell ⟨w.heap.size + 1, 0, none⟩ .nilIface).heap[w1.heap.size]? = some (.deferred (some [])) := (Below.heap_setCell _ _ _ _ (by show w1.heap.size ≠ w.heap.size + 1; omega)).trans hD
    have hr3 : At (Wr.setCell ⟨w.heap.size + 1, 0, none⟩ .nilIface) (w.heap.size + 1) 39 #[.nilIface] := by simpa using hi2.put 0 .nilIface
    have hr2 : At ((Wr.setCell ⟨w.heap.size + 1, 0, none⟩ .nilIface).putObj w1.heap.size (.deferred none)) (w.heap.size + 1) 39 #[.nilIface] := (World.putObj_heap_other (by omega)).trans hr3
    have hb2 : Below w.heap.size w ((Wr.setCell ⟨w.heap.size + 1, 0, none⟩ .nilIface).putObj w1.heap.size (.deferred none)) := (hi4.setCell (by simp) _).trans (belowK_b (w := w) (Nat.le_refl _) _ w1.heap.size _ (.deferred none) (by omega) hD2 rfl rfl)
    have hc2 := hr2.cell 0
    simp at hc2
    refine ⟨by simp, .inl ⟨_, _, rfl, run_takeDeferred hD2, ?_⟩⟩
    exact ⟨.nilIface, by simp [results, Tryd.results11, go_sem, hc2], ⟨_, rfl, .inl ⟨by rw [hf0], rfl⟩⟩, hb2⟩
  case stop =>
    rintro Wr hW2 hI2 hbad hD
    obtain ⟨hi1, ⟨u, hi2, hi3⟩, hi4⟩ := hI2
    rw [firstBad_upTo] at hi3
    have hc := hi2.cell 0
    simp at hc
    have hr2 : At (Wr.putObj w1.heap.size (.deferred none)) (w.heap.size + 1) 39 #[u] := (World.putObj_heap_other (by omega)).trans hi2
    have hb2 : Below w.heap.size w (Wr.putObj w1.heap.size (.deferred none)) := hi4.trans (belowK_b (w := w) (Nat.le_refl _) _ w1.heap.size _ (.deferred none) (by omega) hD rfl rfl)
    have hc2 := hr2.cell 0
    have he2 : ErrAt (Wr.putObj w1.heap.size (.deferred none)) u (faultV s) := by
      rcases hi3 with h3 | ⟨h5, q, h6, h7⟩
      · exact .inl h3
      · exact .inr ⟨h5, q, h6, At.oldCells (n := 0) (row := some w1.heap.size) h7 (grownBy_putObj' _ _ _) (fun r e => by cases e; exact ⟨Nat.zero_le _, _, hD, rfl⟩)⟩
    simp at hc2
    gi_wp2
    refine ⟨by simp, .inl ⟨_, _, rfl, run_takeDeferred hD, ?_⟩⟩
    exact ⟨u, by simp [results, Tryd.results11, go_sem, hc2], ⟨_, rfl, he2⟩, hb2⟩

end Go.Proofs.YtlkijbakfoabaaaDoor.Scene

/-
  The contract of package load's Profile.
-/
import Derived.Test.YtphfjaelglafnaaDoorLoadRuns
import Derived.Test.YtphfjaelglafnaaDoorRouteLen
import Derived.Laws.MakeOwn
namespace Go.Proofs.YtphfjaelglafnaaDoor.Load
open Go.RowKit Go.Shelf Go.Proofs.YtphfjaelglafnaaDoor.Mem Go.Proofs.YtphfjaelglafnaaDoor.Route Go.Proofs.YtphfjaelglafnaaDoor.When Go.Proofs.YtphfjaelglafnaaDoor.Up
set_option linter.unusedVariables false

attribute [local go_sem] Oper.semAt_some

theorem cellsOld {A A' : World} {g n : Nat} {t : TypeId} {cs : Array Value} {row : Option Nat} (h : At A g t cs) (hg : A.grownBy A' row) (hr : ∀ r, row = some r → n ≤ r ∧ ∃ o, A.heap[r]? = some o ∧ o.isCells = false) : At A' g t cs :=
  (hg.block g h.inside (fun e => by
    obtain ⟨_, o, ho, hc⟩ := hr g e.symm
    have h' : A.heap[g]? = some (.cells cs t (0, 0)) := h
    rw [h'] at ho
    cases ho
    cases hc)).trans h

theorem made_ints (N : Nat) (hN : N ≤ 1000000) : ∃ cs : Array Value, cs.size = N ∧ ∀ W, (Instr.makeSlice 37 (.int .i64 (N : Int)) (.int .i64 (N : Int))).run Tryd.prog W = .ok (.slice (some ⟨W.heap.size, 0, none⟩) N N) (W.alloc (.cells cs 3)) := by
  obtain ⟨i, hi, hz, hs, hb⟩ := info_parts info_int
  refine ⟨madeCells (Value.int .i64 0).cells (N * 1), by rw [size_madeCells]; omega, fun W => ?_⟩
  have h := run_makeSlice (P := Tryd.prog) W 37 3 i (.int .i64 0) Tryd.underlying37 hi hz .i64 .i64 N N (by omega) (by omega) (by rw [hs]; omega) (by rw [hb]; omega) (by omega)
  rw [hs] at h
  simpa using h

theorem res_vi {fn : Func} {p q : Tmp} (h : fn.results = #[.tmp p, .tmp q]) {tmps : Array Value} {w : World} {a b : Value} (hp : tmps.getD p undef = a) (hq : tmps.getD q undef = b) : (results fn tmps).run Tryd.prog w = .ok (.tuple #[a, b]) w := by
  have hp' : tmps[p]?.getD undef = a := by simpa using hp
  have hq' : tmps[q]?.getD undef = b := by simpa using hq
  simp only [results, h]
  go_simp

/-- The row of numbers that a call has made, filled up to what has come. -/
def Filled (W : World) (p N : Nat) (pre : List (Int × Int)) : Prop :=
  ∃ cs : Array Value, At W p 3 cs ∧ cs.size = N ∧ ∀ (j : Nat) (x : Int), (pre.map (·.2))[j]? = some x → cs[j]? = some (.int .i64 x)
structure ProfI (w : World) (p N : Nat) (vl vt : Value) (l : List (Int × Int)) (t : List Rq) (pre : List (Int × Int)) (W : World) : Prop where
  row : Filled W p N pre
  res : At W (p + 1) 37 #[.slice (some ⟨p, 0, none⟩) N N]
  hl : At W (p + 2) 26 #[vl]
  ht : At W (p + 3) 33 #[vt]
  below : Below w.heap.size w W
theorem ProfI.old {w : World} {p N : Nat} {vl vt : Value} {l : List (Int × Int)} {t : List Rq} {m : Nat} (hm : w.heap.size ≤ m) : Old m (ProfI w p N vl vt l t) := by
  rintro pre A A' row h hg hr
  obtain ⟨cs, h1, h2, h3⟩ := h.row
  exact ⟨⟨cs, cellsOld h1 hg hr, h2, h3⟩, cellsOld h.res hg hr, cellsOld h.hl hg hr, cellsOld h.ht hg hr, h.below.grown hg h.below.size (fun k e => by have := (hr k e).1; omega)⟩
theorem Filled.next {W : World} {p N : Nat} {pre : List (Int × Int)} (h : Filled W p N pre) (hk : pre.length < N) (y : Int × Int) : Filled (W.setCell ⟨p, pre.length, none⟩ (.int .i64 y.2)) p N (pre ++ [y]) := by
  obtain ⟨cs, h1, h2, h3⟩ := h
  refine ⟨_, h1.put _ _, by simpa using h2, fun j x hj => ?_⟩
  rw [List.map_append] at hj
  rcases Nat.lt_or_ge j pre.length with hlt | hge
  · rw [List.getElem?_append_left (by simpa using hlt)] at hj
    rw [Array.getElem?_setIfInBounds_ne (by omega)]
    exact h3 j x hj
  · rw [List.getElem?_append_right (by simpa using hge)] at hj
    have h0 : j - pre.length = 0 := by
      have := (List.getElem?_eq_some_iff.1 hj).1
      simp at this
      omega
    simp [h0] at hj
    have hj2 : j = pre.length := by omega
    subst hj2
    rw [Array.getElem?_setIfInBounds_self_of_lt (by omega), hj]
theorem Filled.ints {W : World} {p N : Nat} {pre : List (Int × Int)} (h : Filled W p N pre) (hN : pre.length = N) (hm : N ≤ 1000000) : Ints W.heap.size W (.slice (some ⟨p, 0, none⟩) N N) (pre.map (·.2)) := by
  obtain ⟨cs, h1, h2, h3⟩ := h
  refine ⟨some ⟨p, 0, none⟩, N, by simp [hN], by simp [hN], by unfold maxLen; omega, (fun e => by cases e), fun j r hj => ⟨p, 0, rfl, h1.inside, fun k u hk => ?_⟩⟩
  rw [List.getElem?_map] at hj
  obtain ⟨x, hx, rfl⟩ := Option.map_eq_some_iff.1 hj
  simp only [inV] at hk
  have hk0 : k = 0 := by
    have := (List.getElem?_eq_some_iff.1 hk).1
    simp at this
    exact this
  subst hk0
  simp at hk
  subst hk
  rw [h1.cell]
  simpa using h3 j x hx

theorem ProfI.next {w : World} {p N : Nat} {vl vt : Value} {l : List (Int × Int)} {t : List Rq} {pre : List (Int × Int)} {W : World} (h : ProfI w p N vl vt l t pre W) (hk : pre.length < N) (y : Int × Int) (hp : w.heap.size ≤ p) : ProfI w p N vl vt l t (pre ++ [y]) (W.setCell ⟨p, pre.length, none⟩ (.int .i64 y.2)) :=
  ⟨h.row.next hk y, h.res.far (by omega) _ _, h.hl.far (by omega) _ _, h.ht.far (by omega) _ _, h.below.setCell (by simp; omega) _⟩

set_option maxRecDepth 100000 in
set_option maxHeartbeats 4000000 in
theorem Profile_all (vl vt : Value) (l : List (Int × Int)) (t : List Rq) (hl : l.length ≤ 1000000) (hnum : Nums l) (w : World) (hsg : Sg w) (hL : Row w.heap.size w vl l) (hT : Rqs w.heap.size w vt t) :
    Calls Tryd.prog 8 #[vl, vt] w fun e w' =>
      (∃ u, e = .returned (.tuple #[u, .int .i64 (toldV l t)]) ∧ Ints w'.heap.size w' u (profV l t) ∧ New w.heap.size u ∧ (toldV l t ≠ 0 → u = .slice none 0 0)) ∧ Below w.heap.size w w' := by
  have hc := check_any vl vt l t hl hnum w hL hT
  obtain ⟨xl, Nl, capl, rfl, hNl, hl0, hlc1, hlc2⟩ := hL.opened
  obtain ⟨xt, Nt, capt, rfl, hNt0, htc1, htc2, ht0⟩ := hT.opened
  unfold maxLen at hlc2
  have hL' := Lib.hid hL
  have hT' := Lib.hid hT
  have hNl1 : Nl ≤ 1000000 := by rw [hNl.out] at hl; exact hl
  obtain ⟨cs, hcs, hmk⟩ := made_ints Nl hNl1
  have hcs' := Lib.hid hcs
  obtain ⟨E, hE⟩ : ∃ E, toldV l t = E := ⟨_, rfl⟩
  rw [hE] at hc ⊢
  have hE' := Lib.hid hE
  clear hL hT hNt0 ht0 hl hnum hE hcs
  refine (callsIn_wide (n := 3)).1 ?_
  refine callsIn_of_wp_marks Tryd.func8 rfl trivial ?_ rfl
  simp only [Tryd.ntmps8, List.size_toArray, List.length_cons, List.length_nil, Nat.reduceAdd, Nat.reduceSub, Array.replicate_succ, Array.replicate_zero, List.push_toArray, List.append_toArray, List.nil_append, List.cons_append]
  gi_wp2_with fail
  refine ⟨trivial, ?_⟩
  refine (callsIn_wide.2 hc).mono ?_
  clear hc
  rintro e w1 ⟨rfl, hB⟩
  cases he0 : (E == 0)
  · have he1 : (E != 0) = true := by simpa using he0
    have hw : Hid (profV l t = []) := Lib.hid (by
      unfold profV
      rw [if_neg (by rw [hE'.out]; simpa using he0)])
    clear hmk
    gi_wp2
    refine ⟨.tuple #[.slice none 0 0, .int .i64 E], by simp [results, Tryd.results8, go_sem], ⟨_, rfl, by rw [hw.out]; exact RowB.nil _ _ _, New.nil _, fun _ => rfl⟩, hB⟩
  · have he1 : (E != 0) = false := by simpa using he0
    have hez : Hid (E = 0) := Lib.hid (by simpa using he0)
    have htz : Hid (toldV l t = 0) := Lib.hid (hE'.out.trans hez.out)
    obtain ⟨p, hp⟩ : ∃ p, w1.heap.size = p := ⟨_, rfl⟩
    obtain ⟨w2, hw2⟩ : ∃ w2, (w1.alloc (.cells cs 3)).alloc (.cells #[.slice (some ⟨p, 0, none⟩) Nl Nl] 37) = w2 := ⟨_, rfl⟩
    have hs2 : w2.heap.size = p + 2 := by rw [← hw2, ← hp]; simp
    obtain ⟨w3, hw3⟩ : ∃ w3, (w2.alloc (.cells #[.slice xl Nl capl] 26)).alloc (.cells #[.slice xt Nt capt] 33) = w3 := ⟨_, rfl⟩
    have hs3 : w3.heap.size = p + 4 := by rw [← hw3]; simp [hs2]
    have hsz : w.heap.size ≤ p := by rw [← hp]; exact hB.size
    have hI0 : ProfI w p Nl (.slice xl Nl capl) (.slice xt Nt capt) l t [] w3 := by
      rw [← hw3]
      refine ⟨⟨cs, ?_, hcs'.out, fun j x hj => by simp at hj⟩, ?_, (At.new_ _ _ _ (by rw [hs2])).alloc _, At.new_ _ _ _ (by simp [hs2]), ?_⟩
      · rw [← hw2]; exact (((At.new_ _ _ _ hp.symm).alloc _).alloc _).alloc _
      · rw [← hw2]; exact ((At.new_ _ _ _ (by simp [hp])).alloc _).alloc _
      · rw [← hw2]; exact (((hB.alloc hB.size _).alloc (by simp; omega) _).alloc (by simp; omega) _).alloc (by simp; omega) _
    have hrun := board_runs l t htz.out (.slice xl Nl capl) (.slice xt Nt capt) (p + 2) (p + 3) w.heap.size (w3.heap.size + 2) (by omega) (fun _ => true) (ProfI w p Nl (.slice xl Nl capl) (.slice xt Nt capt) l t)
      (fun q A hA => ⟨hA.hl, hA.ht, hL'.out.keep hA.below (Nat.le_refl _), hT'.out.keep hA.below (Nat.le_refl _), hsg.on hA.below⟩)
    have hlen := Lib.hid (prs_length t l)
    have hprf := Lib.hid (prs_snd t l)
    have hpv : Hid (profV l t = prof t l) := Lib.hid (by unfold profV; rw [if_pos htz.out])
    have hI0' := Lib.hid hI0
    have hrun' := Lib.hid hrun
    have hw2' := Lib.hid hw2
    have hw3' := Lib.hid hw3
    have hp' := Lib.hid hp
    clear hI0 hrun hw2 hw3 hp
    gi_wp2_with fail
    refine ⟨trivial, ?_⟩
    simp only [hp'.out]
    rw [hw2'.out]
    refine (callsIn_wide.2 (onBoard_any xl xt Nl capl Nt capt w2)).mono ?_
    rintro e w3' ⟨rfl, hw3⟩
    obtain rfl : w3 = w3' := hw3'.out.symm.trans hw3
    clear hw3
    rw [hs2]
    gi_wp2_with fail
    refine rangesRound2 (gf := 42) (fst := #[]) (lb := #[.pointer (some ⟨p + 2, 0, none⟩), .pointer (some ⟨p + 3, 0, none⟩)]) rfl (enters_of Tryd.func42 (by kernel_rfl) rfl) (encs := encP) (good := fun _ => true) (xs := prs t l) (fun _ => rfl)
      (ProfI w p Nl (.slice xl Nl capl) (.slice xt Nt capt) l t) (ProfI.old (by omega)) hI0'.out hrun'.out ?round ?done ?stop
    case round =>
      rintro l2 pre y Wr ⟨rest, hx⟩ hW2 - hg
      obtain ⟨hk1, hy⟩ := prs_at hx
      have hkN : pre.length < Nl := by rw [← hNl.out]; exact hk1
      have hy1 : y.1 = (pre.length : Int) := by rw [hy]
      dsimp only [encP]
      rw [hy1]
      clear hy hy1
      gi_wp2
      refine ⟨gRefl _ _, fun Vr hVs hVb hI2 => ?_⟩
      have r0 := hI2.res.cell 0
      simp at r0
      have hpi : p < Vr.heap.size := by have := hI2.res.inside; omega
      obtain ⟨ca, hca, hcn, _⟩ := hI2.row
      have fz := hca.free pre.length
      have cz := hca.cell pre.length
      rw [Array.getElem?_eq_getElem (by omega)] at cz
      have hI2' := Lib.hid hI2
      generalize ca[pre.length]'(by omega) = old at cz
      clear hI2 hca hVb hx hg hI0' hrun' hw2' hw3' hcn
      generalize hK : pre.length = K at *
      have hK' := Lib.hid hK
      clear hK
      gi_wp2
      refine ⟨rfl, ?_, ?_⟩
      · have := ProfI.next hI2'.out (by rw [hK'.out]; exact hkN) y hsz
        rw [hK'.out] at this
        exact this
      · exact Held.setCell _ (by omega) (by omega) _
    case done =>
      rintro Wr hW2 hI2 hall hD
      have r0 := hI2.res.cell 0
      simp at r0
      have hpi := hI2.res.inside
      have hlen2 := hlen.out
      have hN0 := hNl.out
      have hI2' := Lib.hid hI2
      clear hI2 hall hI0' hrun' hw2' hw3'
      gi_wp2
      refine ⟨by simp, .inl ⟨_, _, rfl, run_takeDeferred hD, ?_⟩⟩
      have hI4 : ProfI w p Nl (.slice xl Nl capl) (.slice xt Nt capt) l t (prs t l) (Wr.putObj w3.heap.size (.deferred none)) :=
        ProfI.old (m := w.heap.size) (Nat.le_refl _) _ _ _ _ hI2'.out (grownBy_putObj' _ _ _) (fun r e => by cases e; exact ⟨by omega, _, hD, rfl⟩)
      refine ⟨.tuple #[.slice (some ⟨p, 0, none⟩) Nl Nl, .int .i64 0], by simp [results, Tryd.results8, go_sem], ⟨_, by rw [hez.out], ?_, fun r e => ?_, fun h => absurd hez.out h⟩, hI4.below⟩
      · rw [hpv.out, ← hprf.out]
        exact hI4.row.ints (by rw [hlen2, hN0]) hNl1
      · simp only [Value.ownBlock, Option.some.injEq] at e
        omega
    case stop =>
      rintro Wr hW2 hI2 hbad hD
      exact absurd (fun _ _ => rfl) hbad

end Go.Proofs.YtphfjaelglafnaaDoor.Load

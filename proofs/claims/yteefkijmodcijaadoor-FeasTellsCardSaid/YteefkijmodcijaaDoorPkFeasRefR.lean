import Derived.Test.YteefkijmodcijaaDoorPkFeasRefRM
import Derived.Test.YteefkijmodcijaaDoorPkFeasCheck

/-
  The document's answer: do these times serve a route?
-/
namespace Go.Proofs.YteefkijmodcijaaDoor.Feas
open Go.RowKit Go.Sort Go.Proofs.YteefkijmodcijaaDoor.Mem Go.Proofs.YteefkijmodcijaaDoor.Route Go.Proofs.YteefkijmodcijaaDoor.When Go.Proofs.YteefkijmodcijaaDoor.Load Go.Proofs.YteefkijmodcijaaDoor.Place
set_option linter.unusedVariables false

/-- What the operations leave that lay a place, a window, and a time: values outright; three blocks, and the first two stores. -/
def VV (ks : List (Option Value)) (i : Nat) (v : Value) (_ : World) : Prop := ∀ u, ks[i]? = some (some u) → v = u
theorem VV.keep {ks : List (Option Value)} {i : Nat} {v : Value} {W V : World} (h : VV ks i v W) : VV ks i v V := h
theorem VV.eq {ks : List (Option Value)} {i : Nat} {v u : Value} {W : World} (h : VV ks i v W) (e : ks[i]? = some (some u)) : v = u := h u e
theorem VV.mk {ks : List (Option Value)} {i : Nat} {v u : Value} {W : World} (e : ks[i]? = some (some u)) (h : v = u) : VV ks i v W := fun u' h' => by rw [e] at h'; cases h'; exact h
theorem VV.any {ks : List (Option Value)} {i : Nat} {v : Value} {W : World} (e : ks[i]? = some none) : VV ks i v W := fun u' h' => by rw [e] at h'; cases h'
structure ZR (M : Nat) (px py we wl : Int) (done : Nat → Bool) (ys : Nat → Value) (W : World) : Prop where
  o1 : done 19 = true → done 16 = true
  o2 : done 20 = true → done 17 = true
  p : done 16 = true → ∃ (g : Nat) (a b : Int), ys 16 = bptr g ∧ M ≤ g ∧ At W g 32 #[.int .i64 a, .int .i64 b] ∧ (done 19 = true → a = px ∧ b = py)
  w : done 17 = true → ∃ (g : Nat) (a b : Int), ys 17 = bptr g ∧ M ≤ g ∧ At W g 60 #[.int .i64 a, .int .i64 b] ∧ (done 20 = true → a = we ∧ b = wl)
  r : done 18 = true → ∃ (g : Nat), ys 18 = bptr g ∧ M ≤ g ∧ At W g 40 #[.int .i64 0, .int .i64 0, .int .i64 0]
theorem ZR.start (M : Nat) (px py we wl : Int) (ys : Nat → Value) (W : World) : ZR M px py we wl (fun _ => false) ys W := ⟨fun h => (by cases h), fun h => (by cases h), fun h => (by cases h), fun h => (by cases h), fun h => (by cases h)⟩
section
variable {M : Nat} {px py we wl : Int} {done : Nat → Bool} {ys : Nat → Value} {W W' : World}
theorem ZR.light {k : Nat} {v : Value} (h : ZR M px py we wl done ys W) (hk : k < 16) (hb : Below W.heap.size W W') : ZR M px py we wl (Sched.mark done k) (Sched.upd ys k v) W' := by
  have e : ∀ i, 16 ≤ i → Sched.mark done k i = done i := fun i hi => mark_ne (by omega)
  have e2 : ∀ i, 16 ≤ i → Sched.upd ys k v i = ys i := fun i hi => upd_ne (by omega)
  refine ⟨?_, ?_, ?_, ?_, ?_⟩
  · rw [e _ (by decide), e _ (by decide)]; exact h.o1
  · rw [e _ (by decide), e _ (by decide)]; exact h.o2
  · rw [e _ (by decide), e _ (by decide), e2 _ (by decide)]
    intro h1
    obtain ⟨g, a, b, h2, h3, h4, h5⟩ := h.p h1
    exact ⟨g, a, b, h2, h3, h4.keep hb h4.inside, h5⟩
  · rw [e _ (by decide), e _ (by decide), e2 _ (by decide)]
    intro h1
    obtain ⟨g, a, b, h2, h3, h4, h5⟩ := h.w h1
    exact ⟨g, a, b, h2, h3, h4.keep hb h4.inside, h5⟩
  · rw [e _ (by decide), e2 _ (by decide)]
    intro h1
    obtain ⟨g, h2, h3, h4⟩ := h.r h1
    exact ⟨g, h2, h3, h4.keep hb h4.inside⟩
theorem ZR.new16 (h : ZR M px py we wl done ys W) (hn : done 16 = false) (hM : M ≤ W.heap.size) : ZR M px py we wl (Sched.mark done 16) (Sched.upd ys 16 (bptr W.heap.size)) (W.alloc (.cells #[.int .i64 0, .int .i64 0] 32)) := by
  refine ⟨fun _ => by simp [Sched.mark], ?_, fun _ => ⟨W.heap.size, 0, 0, upd_eq, hM, At.new _ _ _, fun h8 => ?_⟩, ?_, ?_⟩
  · rw [mark_ne (by decide), mark_ne (by decide)]; exact h.o2
  · rw [mark_ne (by decide)] at h8
    have := h.o1 h8
    rw [hn] at this; cases this
  · rw [mark_ne (by decide), mark_ne (by decide), upd_ne (by decide)]
    intro h1
    obtain ⟨g, a, b, h2, h3, h4, h5⟩ := h.w h1
    exact ⟨g, a, b, h2, h3, h4.alloc _, h5⟩
  · rw [mark_ne (by decide), upd_ne (by decide)]
    intro h1
    obtain ⟨g, h2, h3, h4⟩ := h.r h1
    exact ⟨g, h2, h3, h4.alloc _⟩
theorem ZR.new17 (h : ZR M px py we wl done ys W) (hn : done 17 = false) (hM : M ≤ W.heap.size) : ZR M px py we wl (Sched.mark done 17) (Sched.upd ys 17 (bptr W.heap.size)) (W.alloc (.cells #[.int .i64 0, .int .i64 0] 60)) := by
  refine ⟨?_, fun _ => by simp [Sched.mark], ?_, fun _ => ⟨W.heap.size, 0, 0, upd_eq, hM, At.new _ _ _, fun h8 => ?_⟩, ?_⟩
  · rw [mark_ne (by decide), mark_ne (by decide)]; exact h.o1
  · rw [mark_ne (by decide), mark_ne (by decide), upd_ne (by decide)]
    intro h1
    obtain ⟨g, a, b, h2, h3, h4, h5⟩ := h.p h1
    exact ⟨g, a, b, h2, h3, h4.alloc _, h5⟩
  · rw [mark_ne (by decide)] at h8
    have := h.o2 h8
    rw [hn] at this; cases this
  · rw [mark_ne (by decide), upd_ne (by decide)]
    intro h1
    obtain ⟨g, h2, h3, h4⟩ := h.r h1
    exact ⟨g, h2, h3, h4.alloc _⟩
theorem ZR.new18 (h : ZR M px py we wl done ys W) (hM : M ≤ W.heap.size) : ZR M px py we wl (Sched.mark done 18) (Sched.upd ys 18 (bptr W.heap.size)) (W.alloc (.cells #[.int .i64 0, .int .i64 0, .int .i64 0] 40)) := by
  refine ⟨?_, ?_, ?_, ?_, fun _ => ⟨W.heap.size, upd_eq, hM, At.new _ _ _⟩⟩
  · rw [mark_ne (by decide), mark_ne (by decide)]; exact h.o1
  · rw [mark_ne (by decide), mark_ne (by decide)]; exact h.o2
  · rw [mark_ne (by decide), mark_ne (by decide), upd_ne (by decide)]
    intro h1
    obtain ⟨g, a, b, h2, h3, h4, h5⟩ := h.p h1
    exact ⟨g, a, b, h2, h3, h4.alloc _, h5⟩
  · rw [mark_ne (by decide), mark_ne (by decide), upd_ne (by decide)]
    intro h1
    obtain ⟨g, a, b, h2, h3, h4, h5⟩ := h.w h1
    exact ⟨g, a, b, h2, h3, h4.alloc _, h5⟩
theorem At.ne {g h : Nat} {t t' : TypeId} {cs cs' : Array Value} (h1 : At W g t cs) (h2 : At W h t' cs') (hne : t ≠ t') : g ≠ h := by
  rintro rfl
  have e := h1.symm.trans h2
  simp only [Option.some.injEq, Obj.cells.injEq] at e
  exact hne e.2.1
theorem ZR.put19 {g : Nat} {a b : Int} {v : Value} (h : ZR M px py we wl done ys W) (h6 : done 16 = true) (e : ys 16 = bptr g) (hN : M ≤ g) (hA : At W g 32 #[.int .i64 a, .int .i64 b]) :
    ZR M px py we wl (Sched.mark done 19) (Sched.upd ys 19 v) ((W.setCell ⟨g, 0, none⟩ (.int .i64 px)).setCell ⟨g, 1, none⟩ (.int .i64 py)) := by
  refine ⟨fun _ => mark_of h6, ?_, fun _ => ⟨g, px, py, by rw [upd_ne (by decide)]; exact e, hN, by simpa using (hA.put 0 (.int .i64 px)).put 1 (.int .i64 py), fun _ => ⟨rfl, rfl⟩⟩, ?_, ?_⟩
  · rw [mark_ne (by decide), mark_ne (by decide)]; exact h.o2
  · rw [mark_ne (by decide), mark_ne (by decide), upd_ne (by decide)]
    intro h1
    obtain ⟨g2, a, b, h2, h3, h4, h5⟩ := h.w h1
    have hne := At.ne h4 hA (by decide)
    exact ⟨g2, a, b, h2, h3, (h4.far hne 0 _).far hne 1 _, h5⟩
  · rw [mark_ne (by decide), upd_ne (by decide)]
    intro h1
    obtain ⟨g2, h2, h3, h4⟩ := h.r h1
    have hne := At.ne h4 hA (by decide)
    exact ⟨g2, h2, h3, (h4.far hne 0 _).far hne 1 _⟩
theorem ZR.put20 {g : Nat} {a b : Int} {v : Value} (h : ZR M px py we wl done ys W) (h6 : done 17 = true) (e : ys 17 = bptr g) (hN : M ≤ g) (hA : At W g 60 #[.int .i64 a, .int .i64 b]) :
    ZR M px py we wl (Sched.mark done 20) (Sched.upd ys 20 v) ((W.setCell ⟨g, 0, none⟩ (.int .i64 we)).setCell ⟨g, 1, none⟩ (.int .i64 wl)) := by
  refine ⟨?_, fun _ => mark_of h6, ?_, fun _ => ⟨g, we, wl, by rw [upd_ne (by decide)]; exact e, hN, by simpa using (hA.put 0 (.int .i64 we)).put 1 (.int .i64 wl), fun _ => ⟨rfl, rfl⟩⟩, ?_⟩
  · rw [mark_ne (by decide), mark_ne (by decide)]; exact h.o1
  · rw [mark_ne (by decide), mark_ne (by decide), upd_ne (by decide)]
    intro h1
    obtain ⟨g2, a, b, h2, h3, h4, h5⟩ := h.p h1
    have hne := At.ne h4 hA (by decide)
    exact ⟨g2, a, b, h2, h3, (h4.far hne 0 _).far hne 1 _, h5⟩
  · rw [mark_ne (by decide), upd_ne (by decide)]
    intro h1
    obtain ⟨g2, h2, h3, h4⟩ := h.r h1
    have hne := At.ne h4 hA (by decide)
    exact ⟨g2, h2, h3, (h4.far hne 0 _).far hne 1 _⟩
end

set_option maxRecDepth 100000 in
set_option maxHeartbeats 8000000 in
theorem rRight_any (v : Vh) (vl vt vs : Value) (l : List (Int × Int)) (t : List Rq) (ts : List Tm) (hl : l.length ≤ 100) (w : World) (hL : Row w.heap.size w vl l) (hT : Rqs w.heap.size w vt t) (hS : Tms w.heap.size w vs ts) :
    Calls Tryd.prog 15 #[.agg #[.int .i64 v.hx, .int .i64 v.hy, .int .i64 v.cp, .int .i64 v.st, .int .i64 v.en], vl, vt, vs] w fun e w' => e = .returned (.bool (rightB v l t ts)) ∧ Below w.heap.size w w' := by
  obtain ⟨xt, Nt, capt, rfl, hNt, htc1, htc2, ht0⟩ := hT.opened
  obtain ⟨xs, Ns, caps, rfl, hNs, hsc1, hsc2, hs0⟩ := hS.opened
  obtain ⟨xl, N, capl, rfl, hN', h0', hlc1, hlc2⟩ := hL.opened
  obtain ⟨q, hq⟩ : ∃ q, w.heap.size = q := ⟨_, rfl⟩
  have hlN : N ≤ 100 := by rw [← hN'.out]; exact hl
  have hNt' := Lib.hid hNt
  have hNs' := Lib.hid hNs
  rw [hq] at hL hT hS ⊢
  have hL' := Lib.hid hL
  have hT' := Lib.hid hT
  have hS' := Lib.hid hS
  have hq' := Lib.hid hq
  have hl' := Lib.hid hl
  unfold maxLen at htc2 hlc2 hsc2
  obtain ⟨w1, hw1⟩ : ∃ w1, w.alloc (.cells #[.int .i64 v.hx, .int .i64 v.hy, .int .i64 v.cp, .int .i64 v.st, .int .i64 v.en] 34) = w1 := ⟨_, rfl⟩
  have hV : At w1 q 34 #[.int .i64 v.hx, .int .i64 v.hy, .int .i64 v.cp, .int .i64 v.st, .int .i64 v.en] := by rw [← hw1]; exact At.new_ _ _ _ hq.symm
  have hB : Below q w w1 := by rw [← hw1]; exact (Below.refl _ _).alloc (by omega) _
  have hw1' := Lib.hid hw1
  clear hT hNt ht0 hL hl h0' hw1 hq hS hNs hs0
  have hrow : Hid (∀ W, Below q w W → Row W.heap.size W (.slice xl N capl) l) := Lib.hid fun W hW => (hL'.out.keep hW (Nat.le_refl _)).more (by have := hW.size; have := hq'.out; omega)
  have htab : Hid (∀ W, Below q w W → Rqs W.heap.size W (.slice xt Nt capt) t) := Lib.hid fun W hW => (hT'.out.keep hW (Nat.le_refl _)).more (by have := hW.size; have := hq'.out; omega)
  have htms : Hid (∀ W, Below q w W → Tms q W (.slice xs Ns caps) ts) := Lib.hid fun W hW => hS'.out.keep hW (Nat.le_refl _)
  clear hL' hT' hS'
  go_enter Tryd.func15, Tryd.ntmps15
  go_upto_region 1 with fail
  simp only [hq'.out]
  rw [hw1'.out]
  have p0 := hV.cell 0
  have p1 := hV.cell 1
  have p2 := hV.cell 2
  have p3 := hV.cell 3
  have p4 := hV.cell 4
  simp at p0 p1 p2 p3 p4
  have hc := May_any v _ _ l t hl'.out w1 (hrow.out _ hB) (htab.out _ hB)
  obtain ⟨R, hR⟩ : ∃ R, mayB v l t = R := ⟨_, rfl⟩
  rw [hR] at hc
  have hR' := Lib.hid hR
  clear hR
  go_wp2_with fail
  refine hc.mono ?_
  clear hc p0 p1 p2 p3 p4
  rintro e w2 ⟨rfl, hb2⟩
  replace hB := hB.trans (hb2.mono (by have := hV.inside; omega))
  replace hV := hV.keep hb2 hV.inside
  clear hb2 hw1'
  cases R
  · have hF := Lib.hid (right_no (ts := ts) hR'.out)
    go_wp2
    go_ret
    exact ⟨Route.ret_bool hF.out.symm, hB⟩
  by_cases hlen : Ns = N
  case neg =>
    have hF := Lib.hid (right_len (v := v) (t := t) (l := l) (ts := ts) (by rw [hNs'.out, hN'.out]; exact hlen))
    have h1 : ((Ns : Int) == N) = false := by simp; omega
    have h2 : ((Ns : Int) != N) = true := by simp; omega
    clear hlen
    go_wp2
    go_ret
    exact ⟨Route.ret_bool hF.out.symm, hB⟩
  case pos =>
  subst hlen
  have hrm := Lib.hid (right_may (ts := ts) hR'.out (by rw [hNs'.out, hN'.out]))
  obtain ⟨hvc, ht, hroute, h16, hinr, -⟩ := may_dr hR'.out
  have hvis := Lib.hid (InR.vis hroute hinr ht)
  have hst := Lib.hid (veh_bd hvc)
  have hne1 : ((Ns : Int) == Ns) = true := by simp
  have hne2 : ((Ns : Int) != Ns) = false := by simp
  have p0 := hV.cell 0
  have p1 := hV.cell 1
  have p3 := hV.cell 3
  simp at p0 p1 p3
  clear hvc ht hroute h16 hinr
  go_upto_region 3 with fail
  have hVi := hV.inside
  obtain ⟨m0, hm0⟩ : ∃ m0, w2.heap.size = m0 := ⟨_, rfl⟩
  have hm0q : q < m0 := by omega
  have hm0' := Lib.hid hm0
  clear hm0
  go_cut [9, 10] from 27 to 30 (fun s8 s9 wx => s8 = .pointer (some ⟨m0, 0, none⟩) ∧ s9 = .int .i64 v.st ∧ At wx m0 32 #[.int .i64 v.hx, .int .i64 v.hy] ∧ Below w2.heap.size w2 wx)
  case first =>
    have hsz : w2.heap.size = m0 := hm0'.out
    go_region
    all_goals
      go_wp2_with fail
      go_meet
      refine ⟨by rw [← hm0'.out], rfl, ?_, ?_⟩
      · rw [← hm0'.out]
        repeat (first | with_reducible exact At.new_ _ _ _ rfl | (with_reducible refine At.new_ _ _ _ ?_; simp; done) | with_reducible refine At.far ?_ (by simp <;> omega) _ _ | with_reducible refine At.drew ?_ | with_reducible refine At.alloc ?_ _)
      · repeat (first | with_reducible refine Below.drew ?_ | with_reducible refine Below.setCell ?_ (by simp) _ | with_reducible refine Below.alloc ?_ (by simp <;> omega) _ | with_reducible exact Below.refl _ _)
  case rest =>
  obtain ⟨rfl, rfl, hA, hb3⟩ := hcut
  obtain ⟨w3, rfl⟩ : ∃ w3, w3 = wc := ⟨_, rfl⟩
  replace hB := hB.trans (hb3.mono (by have := hVi; omega))
  replace hV := hV.keep hb3 hV.inside
  clear hb3 p0 p1 p3 hVi hne1 hne2
  have hK0 : Hid (KeptTo v t l ts 0 ⟨v.st, v.hx, v.hy⟩) := Lib.hid rfl
  have hst1 : 0 ≤ v.st := hst.out.1
  have hst2 : v.st ≤ 2000000 := by have := hst.out.2.1; omega
  go_wp2
  go_loopw [10, 11] (fun nv i wr => ∃ (k : Nat) (now ax ay : Int), i = .int .i64 k ∧ nv = .int .i64 now ∧ k ≤ Ns ∧ (0 ≤ now ∧ now ≤ 2000000) ∧ Hid (KeptTo v t l ts k ⟨now, ax, ay⟩) ∧ At wr m0 32 #[.int .i64 ax, .int .i64 ay] ∧ At wr q 34 #[.int .i64 v.hx, .int .i64 v.hy, .int .i64 v.cp, .int .i64 v.st, .int .i64 v.en] ∧ Below q w wr) (fun _ i _ => Ns - (intOf i).toNat)
  case atStart => exact ⟨0, v.st, v.hx, v.hy, rfl, rfl, Nat.zero_le _, ⟨hst1, hst2⟩, hK0, hA, hV, hB⟩
  case round =>
    clear hK0 hA hV hB hst1 hst2
    obtain ⟨k, now, ax, ay, rfl, rfl, hk, ⟨hn1, hn2⟩, hK, hA, hV, hB⟩ := hrel
    by_cases hlt : k < Ns
    · obtain ⟨⟨s1, s2⟩, hs⟩ : ∃ s, l[k]? = some s := ⟨l[k]'(by rw [hN'.out]; exact hlt), List.getElem?_eq_getElem _⟩
      obtain ⟨y, hy⟩ : ∃ y, ts[k]? = some y := ⟨ts[k]'(by rw [hNs'.out]; exact hlt), List.getElem?_eq_getElem _⟩
      obtain ⟨x, hx, hok⟩ := hvis.out _ (List.mem_of_getElem? hs)
      obtain ⟨hx1, hx2, hx3, hx4, hx5⟩ := hok
      have hlt2 : (k : Int) < Ns := by omega
      have hs' := Lib.hid hs
      have hy' := Lib.hid hy
      have hvx := Lib.hid (vis_some hx).1
      have hstop : Hid (∀ W, Below q w W → ∃ g o, xl = some ⟨g, o, none⟩ ∧ W.cell? ⟨g, o + k * 2, none⟩ = some (.int .i64 s1) ∧ W.cell? ⟨g, o + k * 2 + 1, none⟩ = some (.int .i64 s2)) := Lib.hid fun W hW => by
        obtain ⟨g, o, e, _, h1, h2⟩ := Row.stop (hrow.out W hW) hs
        exact ⟨g, o, e, h1, h2⟩
      obtain ⟨gl, ol, rfl, -, -⟩ := hstop.out wr hB
      obtain ⟨qr, hqr, hr0, hr1, hsv, -⟩ := visO_some hx
      simp only at hqr hr0 hr1 hsv
      obtain ⟨j, rfl⟩ : ∃ j : Nat, s1 = j := ⟨s1.toNat, by omega⟩
      simp only [Int.toNat_natCast] at hqr
      have hj1 : j < Nt := by have := hNt'.out; omega
      have hj2 : (j : Int) < Nt := by omega
      obtain ⟨gt, ot, rfl, -, -⟩ := Rqs.at (htab.out _ hB) hqr
      obtain ⟨gs, os, rfl, -, -, -, -⟩ := Tms.at (htms.out _ hB) hy
      have hmem : Hid (∀ W, Below q w W → W.cell? ⟨gl, ol + k * 2, none⟩ = some (.int .i64 j) ∧ W.cell? ⟨gl, ol + k * 2 + 1, none⟩ = some (.int .i64 s2) ∧ W.cell? ⟨gt, ot + j * 10 + 9, none⟩ = some (.int .i64 x.sv)) := Lib.hid fun W hW => by
        obtain ⟨g, o, e, h1, h2⟩ := hstop.out W hW
        cases e
        obtain ⟨g2, o2, e2, _, h3⟩ := Rqs.at (htab.out W hW) hqr
        cases e2
        exact ⟨h1, h2, by rw [hsv]; exact h3.2.2.2.2.2.2.2.2.2⟩
      have htim : Hid (∀ W, Below q w W → W.cell? ⟨gs, os + k * 3, none⟩ = some (.int .i64 y.ar) ∧ W.cell? ⟨gs, os + k * 3 + 1, none⟩ = some (.int .i64 y.be) ∧ W.cell? ⟨gs, os + k * 3 + 2, none⟩ = some (.int .i64 y.lv)) := Lib.hid fun W hW => by
        obtain ⟨g, o, e, _, h1, h2, h3⟩ := Tms.at (htms.out W hW) hy
        cases e
        exact ⟨h1, h2, h3⟩
      have hx' := Lib.hid hx
      obtain ⟨M, hM1, hM2⟩ : ∃ M, M ≤ wr.heap.size ∧ wr.heap.size ≤ M := ⟨_, Nat.le_refl _, Nat.le_refl _⟩
      have hqM : q ≤ M := by have := hV.inside; omega
      have hmM : m0 < M := by have := hA.inside; omega
      clear hs hy hx hqr hr0 hr1 hsv hstop
      go_upto_region 7 with fail
      refine Sched.wp_region_sched 21 (fun W V => Below M W V) (VV [some (.slice (some ⟨gl, ol, none⟩) Ns capl), some (.int .i64 k), some (.pointer (some ⟨gl, ol + k * 2, none⟩)), some (.agg #[.int .i64 j, .int .i64 s2]), some (.slice (some ⟨gt, ot, none⟩) Nt capt), some (.agg #[.int .i64 x.px, .int .i64 x.py]), some (.slice (some ⟨gl, ol, none⟩) Ns capl), some (.int .i64 k), some (.pointer (some ⟨gl, ol + k * 2, none⟩)), some (.agg #[.int .i64 j, .int .i64 s2]), some (.slice (some ⟨gt, ot, none⟩) Nt capt), some (.agg #[.int .i64 x.we, .int .i64 x.wl]), some (.slice (some ⟨gs, os, none⟩) Ns caps), some (.int .i64 k), some (.pointer (some ⟨gs, os + k * 3, none⟩)), some (.agg #[.int .i64 y.ar, .int .i64 y.be, .int .i64 y.lv]), none, none, none, none, none]) (ZR M x.px x.py x.we x.wl) (by kernel_rfl) (by kernel_rfl) (by kernel_rfl) (fun h1 h2 => h1.trans h2) (fun h1 _ => VV.keep h1) (Below.refl _ _).drew (fun ys => ZR.start _ _ _ _ _ _ _) (Sched.StepsA.steps (by kernel_rfl) ?hS7) ?hQ7
      case hS7 =>
        simp only [List.take_succ_cons, List.take_zero]
        refine ⟨?_, ?_, ?_, ?_, ?_, ?_, ?_, ?_, ?_, ?_, ?_, ?_, ?_, ?_, ?_, ?_, ?_, ?_, ?_, ?_, ?_, trivial⟩
        · intro ys done W aa hE hn hF hD hZ hG hO
          replace hE : Below M wr W := hE
          have hsz := Nat.le_trans hM1 hE.size
          have hBW : Below q w W := hB.trans (hE.mono hqM)
          have o1 := hO 1 (by kernel_rfl)
          replace o1 : aa.tmps[1]? = some (.slice (some ⟨gl, ol, none⟩) Ns capl) := o1
          go_wp2_with fail
          exact ⟨_, rfl, Below.refl _ _, VV.mk rfl rfl, hZ.light (by decide) (Below.refl _ _)⟩
        · intro ys done W aa hE hn hF hD hZ hG hO
          replace hE : Below M wr W := hE
          have hsz := Nat.le_trans hM1 hE.size
          have hBW : Below q w W := hB.trans (hE.mono hqM)
          have o11 := hO 11 (by kernel_rfl)
          replace o11 : aa.tmps[11]? = some (.int .i64 k) := o11
          go_wp2_with fail
          exact ⟨_, rfl, Below.refl _ _, VV.mk rfl rfl, hZ.light (by decide) (Below.refl _ _)⟩
        · intro ys done W aa hE hn hF hD hZ hG hO
          replace hE : Below M wr W := hE
          have hsz := Nat.le_trans hM1 hE.size
          have hBW : Below q w W := hB.trans (hE.mono hqM)
          have v0 := (hF 0 (by decide) (hD 0 (by kernel_rfl))).eq (u := .slice (some ⟨gl, ol, none⟩) Ns capl) rfl
          have g0 := hG 0 37 rfl (Nat.le_of_ble_eq_true rfl)
          rw [v0] at g0
          have v1 := (hF 1 (by decide) (hD 1 (by kernel_rfl))).eq (u := .int .i64 k) rfl
          have g1 := hG 1 38 rfl (Nat.le_of_ble_eq_true rfl)
          rw [v1] at g1
          go_wp2_with fail
          exact ⟨_, rfl, Below.refl _ _, VV.mk rfl rfl, hZ.light (by decide) (Below.refl _ _)⟩
        · intro ys done W aa hE hn hF hD hZ hG hO
          replace hE : Below M wr W := hE
          have hsz := Nat.le_trans hM1 hE.size
          have hBW : Below q w W := hB.trans (hE.mono hqM)
          have v2 := (hF 2 (by decide) (hD 2 (by kernel_rfl))).eq (u := .pointer (some ⟨gl, ol + k * 2, none⟩)) rfl
          have g2 := hG 2 39 rfl (Nat.le_of_ble_eq_true rfl)
          rw [v2] at g2
          obtain ⟨e0, e1, -⟩ := hmem.out W hBW
          go_wp2_with fail
          exact ⟨_, rfl, Below.refl _ _, VV.mk rfl rfl, hZ.light (by decide) (Below.refl _ _)⟩
        · intro ys done W aa hE hn hF hD hZ hG hO
          replace hE : Below M wr W := hE
          have hsz := Nat.le_trans hM1 hE.size
          have hBW : Below q w W := hB.trans (hE.mono hqM)
          have o2 := hO 2 (by kernel_rfl)
          replace o2 : aa.tmps[2]? = some (.slice (some ⟨gt, ot, none⟩) Nt capt) := o2
          go_wp2_with fail
          exact ⟨_, rfl, Below.refl _ _, VV.mk rfl rfl, hZ.light (by decide) (Below.refl _ _)⟩
        · intro ys done W aa hE hn hF hD hZ hG hO
          replace hE : Below M wr W := hE
          have hsz := Nat.le_trans hM1 hE.size
          have hBW : Below q w W := hB.trans (hE.mono hqM)
          have v3 := (hF 3 (by decide) (hD 3 (by kernel_rfl))).eq (u := .agg #[.int .i64 j, .int .i64 s2]) rfl
          have g3 := hG 3 40 rfl (Nat.le_of_ble_eq_true rfl)
          rw [v3] at g3
          have v4 := (hF 4 (by decide) (hD 4 (by kernel_rfl))).eq (u := .slice (some ⟨gt, ot, none⟩) Nt capt) rfl
          have g4 := hG 4 41 rfl (Nat.le_of_ble_eq_true rfl)
          rw [v4] at g4
          go_wp2_with fail
          refine (rPlace_any j s2 _ t x W hx'.out (htab.out W hBW)).mono ?_
          rintro e W' ⟨rfl, hb'⟩
          replace hb' := Lib.hid hb'
          go_wp2_with fail
          exact ⟨_, rfl, (hb'.out).mono hsz, VV.mk rfl rfl, hZ.light (by decide) hb'.out⟩
        · intro ys done W aa hE hn hF hD hZ hG hO
          replace hE : Below M wr W := hE
          have hsz := Nat.le_trans hM1 hE.size
          have hBW : Below q w W := hB.trans (hE.mono hqM)
          have o1 := hO 1 (by kernel_rfl)
          replace o1 : aa.tmps[1]? = some (.slice (some ⟨gl, ol, none⟩) Ns capl) := o1
          go_wp2_with fail
          exact ⟨_, rfl, Below.refl _ _, VV.mk rfl rfl, hZ.light (by decide) (Below.refl _ _)⟩
        · intro ys done W aa hE hn hF hD hZ hG hO
          replace hE : Below M wr W := hE
          have hsz := Nat.le_trans hM1 hE.size
          have hBW : Below q w W := hB.trans (hE.mono hqM)
          have o11 := hO 11 (by kernel_rfl)
          replace o11 : aa.tmps[11]? = some (.int .i64 k) := o11
          go_wp2_with fail
          exact ⟨_, rfl, Below.refl _ _, VV.mk rfl rfl, hZ.light (by decide) (Below.refl _ _)⟩
        · intro ys done W aa hE hn hF hD hZ hG hO
          replace hE : Below M wr W := hE
          have hsz := Nat.le_trans hM1 hE.size
          have hBW : Below q w W := hB.trans (hE.mono hqM)
          have v6 := (hF 6 (by decide) (hD 6 (by kernel_rfl))).eq (u := .slice (some ⟨gl, ol, none⟩) Ns capl) rfl
          have g6 := hG 6 43 rfl (Nat.le_of_ble_eq_true rfl)
          rw [v6] at g6
          have v7 := (hF 7 (by decide) (hD 7 (by kernel_rfl))).eq (u := .int .i64 k) rfl
          have g7 := hG 7 44 rfl (Nat.le_of_ble_eq_true rfl)
          rw [v7] at g7
          go_wp2_with fail
          exact ⟨_, rfl, Below.refl _ _, VV.mk rfl rfl, hZ.light (by decide) (Below.refl _ _)⟩
        · intro ys done W aa hE hn hF hD hZ hG hO
          replace hE : Below M wr W := hE
          have hsz := Nat.le_trans hM1 hE.size
          have hBW : Below q w W := hB.trans (hE.mono hqM)
          have v8 := (hF 8 (by decide) (hD 8 (by kernel_rfl))).eq (u := .pointer (some ⟨gl, ol + k * 2, none⟩)) rfl
          have g8 := hG 8 45 rfl (Nat.le_of_ble_eq_true rfl)
          rw [v8] at g8
          obtain ⟨e0, e1, -⟩ := hmem.out W hBW
          go_wp2_with fail
          exact ⟨_, rfl, Below.refl _ _, VV.mk rfl rfl, hZ.light (by decide) (Below.refl _ _)⟩
        · intro ys done W aa hE hn hF hD hZ hG hO
          replace hE : Below M wr W := hE
          have hsz := Nat.le_trans hM1 hE.size
          have hBW : Below q w W := hB.trans (hE.mono hqM)
          have o2 := hO 2 (by kernel_rfl)
          replace o2 : aa.tmps[2]? = some (.slice (some ⟨gt, ot, none⟩) Nt capt) := o2
          go_wp2_with fail
          exact ⟨_, rfl, Below.refl _ _, VV.mk rfl rfl, hZ.light (by decide) (Below.refl _ _)⟩
        · intro ys done W aa hE hn hF hD hZ hG hO
          replace hE : Below M wr W := hE
          have hsz := Nat.le_trans hM1 hE.size
          have hBW : Below q w W := hB.trans (hE.mono hqM)
          have v9 := (hF 9 (by decide) (hD 9 (by kernel_rfl))).eq (u := .agg #[.int .i64 j, .int .i64 s2]) rfl
          have g9 := hG 9 46 rfl (Nat.le_of_ble_eq_true rfl)
          rw [v9] at g9
          have v10 := (hF 10 (by decide) (hD 10 (by kernel_rfl))).eq (u := .slice (some ⟨gt, ot, none⟩) Nt capt) rfl
          have g10 := hG 10 47 rfl (Nat.le_of_ble_eq_true rfl)
          rw [v10] at g10
          go_wp2_with fail
          refine (rWindow_any j s2 _ t x W hx'.out (htab.out W hBW)).mono ?_
          rintro e W' ⟨rfl, hb'⟩
          replace hb' := Lib.hid hb'
          go_wp2_with fail
          exact ⟨_, rfl, (hb'.out).mono hsz, VV.mk rfl rfl, hZ.light (by decide) hb'.out⟩
        · intro ys done W aa hE hn hF hD hZ hG hO
          replace hE : Below M wr W := hE
          have hsz := Nat.le_trans hM1 hE.size
          have hBW : Below q w W := hB.trans (hE.mono hqM)
          have o3 := hO 3 (by kernel_rfl)
          replace o3 : aa.tmps[3]? = some (.slice (some ⟨gs, os, none⟩) Ns caps) := o3
          go_wp2_with fail
          exact ⟨_, rfl, Below.refl _ _, VV.mk rfl rfl, hZ.light (by decide) (Below.refl _ _)⟩
        · intro ys done W aa hE hn hF hD hZ hG hO
          replace hE : Below M wr W := hE
          have hsz := Nat.le_trans hM1 hE.size
          have hBW : Below q w W := hB.trans (hE.mono hqM)
          have o11 := hO 11 (by kernel_rfl)
          replace o11 : aa.tmps[11]? = some (.int .i64 k) := o11
          go_wp2_with fail
          exact ⟨_, rfl, Below.refl _ _, VV.mk rfl rfl, hZ.light (by decide) (Below.refl _ _)⟩
        · intro ys done W aa hE hn hF hD hZ hG hO
          replace hE : Below M wr W := hE
          have hsz := Nat.le_trans hM1 hE.size
          have hBW : Below q w W := hB.trans (hE.mono hqM)
          have v12 := (hF 12 (by decide) (hD 12 (by kernel_rfl))).eq (u := .slice (some ⟨gs, os, none⟩) Ns caps) rfl
          have g12 := hG 12 49 rfl (Nat.le_of_ble_eq_true rfl)
          rw [v12] at g12
          have v13 := (hF 13 (by decide) (hD 13 (by kernel_rfl))).eq (u := .int .i64 k) rfl
          have g13 := hG 13 50 rfl (Nat.le_of_ble_eq_true rfl)
          rw [v13] at g13
          go_wp2_with fail
          exact ⟨_, rfl, Below.refl _ _, VV.mk rfl rfl, hZ.light (by decide) (Below.refl _ _)⟩
        · intro ys done W aa hE hn hF hD hZ hG hO
          replace hE : Below M wr W := hE
          have hsz := Nat.le_trans hM1 hE.size
          have hBW : Below q w W := hB.trans (hE.mono hqM)
          have v14 := (hF 14 (by decide) (hD 14 (by kernel_rfl))).eq (u := .pointer (some ⟨gs, os + k * 3, none⟩)) rfl
          have g14 := hG 14 51 rfl (Nat.le_of_ble_eq_true rfl)
          rw [v14] at g14
          obtain ⟨e0, e1, e2⟩ := htim.out W hBW
          go_wp2_with fail
          exact ⟨_, rfl, Below.refl _ _, VV.mk rfl rfl, hZ.light (by decide) (Below.refl _ _)⟩
        · intro ys done W aa hE hn hF hD hZ hG hO
          replace hE : Below M wr W := hE
          have hsz := Nat.le_trans hM1 hE.size
          have hBW : Below q w W := hB.trans (hE.mono hqM)
          go_wp2_with fail
          exact ⟨_, rfl, (Below.refl _ _).alloc hsz _, VV.any rfl, hZ.new16 hn hsz⟩
        · intro ys done W aa hE hn hF hD hZ hG hO
          replace hE : Below M wr W := hE
          have hsz := Nat.le_trans hM1 hE.size
          have hBW : Below q w W := hB.trans (hE.mono hqM)
          go_wp2_with fail
          exact ⟨_, rfl, (Below.refl _ _).alloc hsz _, VV.any rfl, hZ.new17 hn hsz⟩
        · intro ys done W aa hE hn hF hD hZ hG hO
          replace hE : Below M wr W := hE
          have hsz := Nat.le_trans hM1 hE.size
          have hBW : Below q w W := hB.trans (hE.mono hqM)
          go_wp2_with fail
          exact ⟨_, rfl, (Below.refl _ _).alloc hsz _, VV.any rfl, hZ.new18 hsz⟩
        · intro ys done W aa hE hn hF hD hZ hG hO
          replace hE : Below M wr W := hE
          have hsz := Nat.le_trans hM1 hE.size
          have hBW : Below q w W := hB.trans (hE.mono hqM)
          have v5 := (hF 5 (by decide) (hD 5 (by kernel_rfl))).eq (u := .agg #[.int .i64 x.px, .int .i64 x.py]) rfl
          have g5 := hG 5 42 rfl (Nat.le_of_ble_eq_true rfl)
          rw [v5] at g5
          obtain ⟨g, a, b, e, hgN, hA, _⟩ := hZ.p (hD 16 (by kernel_rfl))
          have g16 := hG 16 12 rfl (Nat.le_of_ble_eq_true rfl)
          rw [e] at g16
          unfold bptr at g16
          have a0 := hA.cell 0
          have a1 := hA.cell 1
          simp at a0 a1
          have hfr := hA.free
          have hZ' := Lib.hid hZ
          have hA' := Lib.hid hA
          have e' := Lib.hid e
          have hd' := Lib.hid (hD 16 (by kernel_rfl))
          clear hZ hA e
          go_wp2_with fail
          exact ⟨((Below.refl _ _).setCell (show M ≤ (⟨g, 0, none⟩ : Addr).block from hgN) _).setCell (show M ≤ (⟨g, 1, none⟩ : Addr).block from hgN) _, undef, VV.any rfl, hZ'.out.put19 hd'.out e'.out hgN hA'.out⟩
        · intro ys done W aa hE hn hF hD hZ hG hO
          replace hE : Below M wr W := hE
          have hsz := Nat.le_trans hM1 hE.size
          have hBW : Below q w W := hB.trans (hE.mono hqM)
          have v11 := (hF 11 (by decide) (hD 11 (by kernel_rfl))).eq (u := .agg #[.int .i64 x.we, .int .i64 x.wl]) rfl
          have g11 := hG 11 48 rfl (Nat.le_of_ble_eq_true rfl)
          rw [v11] at g11
          obtain ⟨g, a, b, e, hgN, hA, _⟩ := hZ.w (hD 17 (by kernel_rfl))
          have g17 := hG 17 13 rfl (Nat.le_of_ble_eq_true rfl)
          rw [e] at g17
          unfold bptr at g17
          have a0 := hA.cell 0
          have a1 := hA.cell 1
          simp at a0 a1
          have hfr := hA.free
          have hZ' := Lib.hid hZ
          have hA' := Lib.hid hA
          have e' := Lib.hid e
          have hd' := Lib.hid (hD 17 (by kernel_rfl))
          clear hZ hA e
          go_wp2_with fail
          exact ⟨((Below.refl _ _).setCell (show M ≤ (⟨g, 0, none⟩ : Addr).block from hgN) _).setCell (show M ≤ (⟨g, 1, none⟩ : Addr).block from hgN) _, undef, VV.any rfl, hZ'.out.put20 hd'.out e'.out hgN hA'.out⟩
      case hQ7 =>
        intro ys w4 hE hF hZ
        obtain ⟨done, hd, hZ⟩ := hZ
        have v15 := (hF 15 (by decide)).eq (u := .agg #[.int .i64 y.ar, .int .i64 y.be, .int .i64 y.lv]) rfl
        obtain ⟨gp, pa, pb, e16, hg1, hX, h8⟩ := hZ.p (hd 16 (by decide))
        obtain ⟨gw, wa, wb, e17, hg2, hY, h9⟩ := hZ.w (hd 17 (by decide))
        obtain ⟨gm, e18, hg3, hZt⟩ := hZ.r (hd 18 (by decide))
        obtain ⟨ea, eb⟩ := h8 (hd 19 (by decide))
        obtain ⟨ec, ed⟩ := h9 (hd 20 (by decide))
        rw [ea, eb] at hX
        rw [ec, ed] at hY
        clear ea eb ec ed h8 h9
        replace hE : Below M wr w4 := hE
        have hB4 := hB.trans (hE.mono hqM)
        have hA4 := hA.keep hE (show m0 < M by omega)
        have hV4 := hV.keep hE (show q < M by omega)
        have n1 := At.ne hX hZt (by decide)
        have n2 := At.ne hY hZt (by decide)
        have n3 := At.ne hX hY (by decide)
        simp only [List.take_succ_cons, List.take_zero, List.drop_succ_cons, List.drop_zero, Sched.fill, v15, e16, e17, e18]
        clear v15 e16 e17 e18 hF hZ hd hB hA hV hE
        simp only [bptr]
        have z0 := hZt.cell 0
        have z1 := hZt.cell 1
        have z2 := hZt.cell 2
        simp at z0 z1 z2
        have zf := hZt.free
        have hgmi := hZt.inside
        have hX5 := ((hX.far n1 0 (.int .i64 y.ar)).far n1 1 (.int .i64 y.be)).far n1 2 (.int .i64 y.lv)
        have hY5 := ((hY.far n2 0 (.int .i64 y.ar)).far n2 1 (.int .i64 y.be)).far n2 2 (.int .i64 y.lv)
        have hZ5 := put3 (y0 := .int .i64 y.ar) (y1 := .int .i64 y.be) (y2 := .int .i64 y.lv) hZt
        have hA5 := ((hA4.far (show m0 ≠ gm by omega) 0 (.int .i64 y.ar)).far (show m0 ≠ gm by omega) 1 (.int .i64 y.be)).far (show m0 ≠ gm by omega) 2 (.int .i64 y.lv)
        have hV5 := ((hV4.far (show q ≠ gm by omega) 0 (.int .i64 y.ar)).far (show q ≠ gm by omega) 1 (.int .i64 y.be)).far (show q ≠ gm by omega) 2 (.int .i64 y.lv)
        have hB5 := below3 (g := gm) (y0 := .int .i64 y.ar) (y1 := .int .i64 y.be) (y2 := .int .i64 y.lv) hB4 (show q ≤ gm by omega)
        clear hX hY hZt hA4 hV4 hB4
        go_simp
        go_upto_region 8 with fail
        generalize ((w4.setCell ⟨gm, 0, none⟩ (.int .i64 y.ar)).setCell ⟨gm, 1, none⟩ (.int .i64 y.be)).setCell ⟨gm, 2, none⟩ (.int .i64 y.lv) = w5 at *
        have hX := hX5
        have hY := hY5
        have hZ := hZ5
        clear hX5 hY5 hZ5
        clear z0 z1 z2 zf
        -- whether it serves
        obtain ⟨D, hD⟩ : ∃ D, distV (ax, ay) (x.px, x.py) = D := ⟨_, rfl⟩
        have hDb : 0 ≤ D ∧ D ≤ 100000 := by rw [← hD]; exact dist_bd _ _
        obtain ⟨hD1, hD2⟩ := hDb
        have har : Hid (arV ⟨now, ax, ay⟩ x = now + D) := Lib.hid (by unfold arV; rw [← hD])
        have hcD := fun d os => Calls.regrown_of (refDist_any ax ay x.px x.py (grow (redrawn w5 d) os))
        rw [hD] at hcD
        have a0 := hA5.cell 0
        have a1 := hA5.cell 1
        have x0 := hX.cell 0
        have x1 := hX.cell 1
        have y0 := hY.cell 0
        have y1 := hY.cell 1
        have z0 := hZ.cell 0
        have z1 := hZ.cell 1
        have z2 := hZ.cell 2
        simp at a0 a1 x0 x1 y0 y1 z0 z1 z2
        obtain ⟨e0, e1, e9⟩ := hmem.out w5 hB5
        have ka0 := cell_regrown a0
        have ka1 := cell_regrown a1
        have kx0 := cell_regrown x0
        have kx1 := cell_regrown x1
        have ky0 := cell_regrown y0
        have ky1 := cell_regrown y1
        have kz0 := cell_regrown z0
        have kz1 := cell_regrown z1
        have kz2 := cell_regrown z2
        have ke0 := cell_regrown e0
        have ke9 := cell_regrown e9
        have hs5 : q ≤ w5.heap.size := by have := hA5.inside; omega
        clear hD
        by_cases c1 : y.ar < now + D
        case pos =>
          have c1t : decide (y.ar < now + D) = true := decide_eq_true c1
          have hF := Lib.hid (hK.out.no hs'.out hy'.out hvx.out (kept_no (by rw [har.out]; omega)))
          have hF' : Hid (rightB v l t ts = false) := Lib.hid (by rw [hrm.out]; exact hF.out)
          clear hF hK
          go_wp2_with fail
          refine wp_region_quiet_below (by kernel_rfl) (by kernel_rfl) ?_
          repeat (go_big_quiet_step (with_reducible exact hcD _ _))
          refine wpQuiet_nil ?_
          intro _ hw'
          obtain ⟨⟨dq, osq⟩, hw''⟩ := hw'
          subst hw''
          have hbg := below_regrown w5 dq osq
          replace hX := hX.keep hbg hX.inside
          replace hA5 := hA5.keep hbg hA5.inside
          replace hV5 := hV5.keep hbg hV5.inside
          replace hZ := hZ.keep hbg hZ.inside
          replace hB5 := hB5.trans (hbg.mono hs5)
          clear hcD a0 a1 x0 x1 y0 y1 z0 z1 z2 e0 e1 e9 ka0 ka1 kx0 kx1 ky0 ky1 kz0 kz1 kz2 ke0 ke9 hbg hs5 hY
          generalize grow (redrawn w5 dq) osq = w6 at *
          go_wp2
          go_ret
          exact ⟨Route.ret_bool hF'.out.symm, hB5⟩
        case neg =>
        have c1f : decide (y.ar < now + D) = false := decide_eq_false c1
        by_cases c2 : y.be < y.ar
        case pos =>
          have c2t : decide (y.be < y.ar) = true := decide_eq_true c2
          have hF := Lib.hid (hK.out.no hs'.out hy'.out hvx.out (kept_no (by rw [har.out]; omega)))
          have hF' : Hid (rightB v l t ts = false) := Lib.hid (by rw [hrm.out]; exact hF.out)
          clear hF hK
          go_wp2_with fail
          refine wp_region_quiet_below (by kernel_rfl) (by kernel_rfl) ?_
          repeat (go_big_quiet_step (with_reducible exact hcD _ _))
          refine wpQuiet_nil ?_
          intro _ hw'
          obtain ⟨⟨dq, osq⟩, hw''⟩ := hw'
          subst hw''
          have hbg := below_regrown w5 dq osq
          replace hX := hX.keep hbg hX.inside
          replace hA5 := hA5.keep hbg hA5.inside
          replace hV5 := hV5.keep hbg hV5.inside
          replace hZ := hZ.keep hbg hZ.inside
          replace hB5 := hB5.trans (hbg.mono hs5)
          clear hcD a0 a1 x0 x1 y0 y1 z0 z1 z2 e0 e1 e9 ka0 ka1 kx0 kx1 ky0 ky1 kz0 kz1 kz2 ke0 ke9 hbg hs5 hY
          generalize grow (redrawn w5 dq) osq = w6 at *
          go_wp2
          go_ret
          exact ⟨Route.ret_bool hF'.out.symm, hB5⟩
        case neg =>
        have c2f : decide (y.be < y.ar) = false := decide_eq_false c2
        by_cases c3 : y.be < x.we
        case pos =>
          have c3t : decide (y.be < x.we) = true := decide_eq_true c3
          have hF := Lib.hid (hK.out.no hs'.out hy'.out hvx.out (kept_no (by rw [har.out]; omega)))
          have hF' : Hid (rightB v l t ts = false) := Lib.hid (by rw [hrm.out]; exact hF.out)
          clear hF hK
          go_wp2_with fail
          refine wp_region_quiet_below (by kernel_rfl) (by kernel_rfl) ?_
          repeat (go_big_quiet_step (with_reducible exact hcD _ _))
          refine wpQuiet_nil ?_
          intro _ hw'
          obtain ⟨⟨dq, osq⟩, hw''⟩ := hw'
          subst hw''
          have hbg := below_regrown w5 dq osq
          replace hX := hX.keep hbg hX.inside
          replace hA5 := hA5.keep hbg hA5.inside
          replace hV5 := hV5.keep hbg hV5.inside
          replace hZ := hZ.keep hbg hZ.inside
          replace hB5 := hB5.trans (hbg.mono hs5)
          clear hcD a0 a1 x0 x1 y0 y1 z0 z1 z2 e0 e1 e9 ka0 ka1 kx0 kx1 ky0 ky1 kz0 kz1 kz2 ke0 ke9 hbg hs5 hY
          generalize grow (redrawn w5 dq) osq = w6 at *
          go_wp2
          go_ret
          exact ⟨Route.ret_bool hF'.out.symm, hB5⟩
        case neg =>
        have c3f : decide (y.be < x.we) = false := decide_eq_false c3
        by_cases c4 : x.wl < y.be
        case pos =>
          have c4t : decide (x.wl < y.be) = true := decide_eq_true c4
          have hF := Lib.hid (hK.out.no hs'.out hy'.out hvx.out (kept_no (by rw [har.out]; omega)))
          have hF' : Hid (rightB v l t ts = false) := Lib.hid (by rw [hrm.out]; exact hF.out)
          clear hF hK
          go_wp2_with fail
          refine wp_region_quiet_below (by kernel_rfl) (by kernel_rfl) ?_
          repeat (go_big_quiet_step (with_reducible exact hcD _ _))
          refine wpQuiet_nil ?_
          intro _ hw'
          obtain ⟨⟨dq, osq⟩, hw''⟩ := hw'
          subst hw''
          have hbg := below_regrown w5 dq osq
          replace hX := hX.keep hbg hX.inside
          replace hA5 := hA5.keep hbg hA5.inside
          replace hV5 := hV5.keep hbg hV5.inside
          replace hZ := hZ.keep hbg hZ.inside
          replace hB5 := hB5.trans (hbg.mono hs5)
          clear hcD a0 a1 x0 x1 y0 y1 z0 z1 z2 e0 e1 e9 ka0 ka1 kx0 kx1 ky0 ky1 kz0 kz1 kz2 ke0 ke9 hbg hs5 hY
          generalize grow (redrawn w5 dq) osq = w6 at *
          go_wp2
          go_ret
          exact ⟨Route.ret_bool hF'.out.symm, hB5⟩
        case neg =>
        have c4f : decide (x.wl < y.be) = false := decide_eq_false c4
        by_cases c5 : y.lv = y.be + x.sv
        case neg =>
          have c5t : (y.lv != y.be + x.sv) = true := by simpa using c5
          have c5f : (y.lv == y.be + x.sv) = false := by simpa using c5
          have hF := Lib.hid (hK.out.no hs'.out hy'.out hvx.out (kept_no (by rw [har.out]; exact fun h => c5 h.2.2.2)))
          have hF' : Hid (rightB v l t ts = false) := Lib.hid (by rw [hrm.out]; exact hF.out)
          clear hF hK
          go_wp2_with fail
          refine wp_region_quiet_below (by kernel_rfl) (by kernel_rfl) ?_
          repeat (go_big_quiet_step (with_reducible exact hcD _ _))
          refine wpQuiet_nil ?_
          intro _ hw'
          obtain ⟨⟨dq, osq⟩, hw''⟩ := hw'
          subst hw''
          have hbg := below_regrown w5 dq osq
          replace hX := hX.keep hbg hX.inside
          replace hA5 := hA5.keep hbg hA5.inside
          replace hV5 := hV5.keep hbg hV5.inside
          replace hZ := hZ.keep hbg hZ.inside
          replace hB5 := hB5.trans (hbg.mono hs5)
          clear hcD a0 a1 x0 x1 y0 y1 z0 z1 z2 e0 e1 e9 ka0 ka1 kx0 kx1 ky0 ky1 kz0 kz1 kz2 ke0 ke9 hbg hs5 hY
          generalize grow (redrawn w5 dq) osq = w6 at *
          go_wp2
          go_ret
          exact ⟨Route.ret_bool hF'.out.symm, hB5⟩
        case pos =>
        have c5t : (y.lv != y.be + x.sv) = false := by simpa using c5
        have c5f : (y.lv == y.be + x.sv) = true := by simpa using c5
        have hnx := Lib.hid (hK.out.next hs'.out hy'.out hvx.out (keptB_iff.2 (by rw [har.out]; omega)))
        have hlv : 0 ≤ y.lv ∧ y.lv ≤ 2000000 := by omega
        have hlv' := Lib.hid hlv
        clear hK hlv
        go_wp2_with fail
        refine wp_region_quiet_below (by kernel_rfl) (by kernel_rfl) ?_
        repeat (go_big_quiet_step (with_reducible exact hcD _ _))
        refine wpQuiet_nil ?_
        intro _ hw'
        obtain ⟨⟨dq, osq⟩, hw''⟩ := hw'
        subst hw''
        have hbg := below_regrown w5 dq osq
        replace hX := hX.keep hbg hX.inside
        replace hA5 := hA5.keep hbg hA5.inside
        replace hV5 := hV5.keep hbg hV5.inside
        replace hZ := hZ.keep hbg hZ.inside
        replace hB5 := hB5.trans (hbg.mono hs5)
        clear hcD a0 a1 x0 x1 y0 y1 z0 z1 z2 e0 e1 e9 ka0 ka1 kx0 kx1 ky0 ky1 kz0 kz1 kz2 ke0 ke9 hbg hs5 hY
        generalize grow (redrawn w5 dq) osq = w6 at *
        have x0 := hX.cell 0
        have x1 := hX.cell 1
        have z2 := hZ.cell 2
        have a0 := hA5.cell 0
        have a1 := hA5.cell 1
        have af := hA5.free
        simp at x0 x1 z2 a0 a1
        have hAi := hA5.inside
        have hXi := hX.inside
        have hZi := hZ.inside
        have hpm : m0 ≠ gp := by omega
        have hpm' : gp ≠ m0 := by omega
        have hzm : gm ≠ m0 := by omega
        have hmg : m0 ≠ gm := by omega
        have hA9 := put2 (y0 := .int .i64 x.px) (y1 := .int .i64 x.py) hA5
        clear c5
        go_upto_region 10 with fail
        go_region
        all_goals
          go_wp2_with fail
          go_roundw
          case rel =>
            refine ⟨k + 1, y.lv, x.px, x.py, by go_num, rfl, hlt, hlv'.out, hnx, ?_, ?_, ?_⟩
            · exact put2 (y0 := .int .i64 x.px) (y1 := .int .i64 x.py) hA5.drew
            · exact (hV5.drew.far (show q ≠ m0 by omega) _ _).far (show q ≠ m0 by omega) _ _
            · exact (hB5.drew.setCell (show q ≤ m0 by omega) _).setCell (show q ≤ m0 by omega) _
          case measure => simp [intOf]; omega
    · obtain rfl : k = Ns := by omega
      have hend := hK.out
      rw [← hN'.out] at hend
      have hF := hend.end
      have hF' : Hid (rightB v l t ts = decide (arV ⟨now, ax, ay⟩ (homeV v) ≤ v.en)) := Lib.hid (by rw [hrm.out]; exact hF)
      obtain ⟨D, hD⟩ : ∃ D, distV (ax, ay) (v.hx, v.hy) = D := ⟨_, rfl⟩
      have hDb : 0 ≤ D ∧ D ≤ 100000 := by rw [← hD]; exact dist_bd _ _
      obtain ⟨hD1, hD2⟩ := hDb
      have har : Hid (arV ⟨now, ax, ay⟩ (homeV v) = now + D) := Lib.hid (by unfold arV; rw [← hD]; rfl)
      have hcD := fun d os => Calls.regrown_of (refDist_any ax ay v.hx v.hy (grow (redrawn wr d) os))
      rw [hD] at hcD
      have hqs : q ≤ wr.heap.size := by have := hV.inside; omega
      have p0 := hV.cell 0
      have p1 := hV.cell 1
      have p4 := hV.cell 4
      have x0 := hA.cell 0
      have x1 := hA.cell 1
      simp at p0 p1 p4 x0 x1
      have k0 := cell_regrown p0
      have k1 := cell_regrown p1
      have k4 := cell_regrown p4
      have kx0 := cell_regrown x0
      have kx1 := cell_regrown x1
      clear hD hend hF hK
      go_upto_region 11 with fail
      refine wp_region_quiet_below (by kernel_rfl) (by kernel_rfl) ?_
      repeat (go_big_quiet_step (with_reducible exact hcD _ _))
      refine wpQuiet_nil ?_
      intro _ hw'
      obtain ⟨⟨dq, osq⟩, hw''⟩ := hw'
      subst hw''
      have hbg := below_regrown wr dq osq
      have hBf := hB.trans (hbg.mono hqs)
      clear hcD p0 p1 p4 k0 k1 k4 kx0 kx1 x0 x1 hbg hV hA hB
      generalize grow (redrawn wr dq) osq = w9 at *
      have hfin : Hid (decide (now + D ≤ v.en) = rightB v l t ts) := Lib.hid (by rw [hF'.out, har.out])
      go_wp2
      go_ret
      exact ⟨Route.ret_bool hfin.out, hBf⟩

end Go.Proofs.YteefkijmodcijaaDoor.Feas

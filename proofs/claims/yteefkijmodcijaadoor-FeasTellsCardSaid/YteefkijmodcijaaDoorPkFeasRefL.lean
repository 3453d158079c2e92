import Derived.Test.YteefkijmodcijaaDoorPkFeasRefB

/-
  The document's answer: where, and when, the last one of a row of stops is left, as early as can be.
-/
namespace Go.Proofs.YteefkijmodcijaaDoor.Feas
open Go.RowKit Go.Sort Go.Proofs.YteefkijmodcijaaDoor.Mem Go.Proofs.YteefkijmodcijaaDoor.Route Go.Proofs.YteefkijmodcijaaDoor.When Go.Proofs.YteefkijmodcijaaDoor.Load Go.Proofs.YteefkijmodcijaaDoor.Place
set_option linter.unusedVariables false

def goE (a : Sp) (x : Vi) : Sp := ⟨max (arV a x) x.we + x.sv, x.px, x.py⟩
def leaveV (v : Vh) (t : List Rq) (l : List (Int × Int)) : Sp := (visL t l).foldl goE (sp0 v)
theorem leave_snoc (v : Vh) (t : List Rq) (l : List (Int × Int)) (s : Int × Int) : leaveV v t (l ++ [s]) = goE (leaveV v t l) (visV t s) := by simp [leaveV, visL]
theorem goE_go (k : Nat) (a : Sp) (x : Vi) : goP earlyP k a x = goE a x := rfl
theorem leave_bd {v : Vh} {t : List Rq} (hst : 0 ≤ v.st ∧ v.st ≤ 1048576) {l : List (Int × Int)} (h : ∀ s ∈ l, ∃ x, visO t s = some x ∧ OkVi x) : 0 ≤ (leaveV v t l).now ∧ (leaveV v t l).now ≤ 1048576 + 1200000 * (l.length : Int) := by
  induction l using snoc_ind with
  | h0 => exact ⟨hst.1, by show v.st ≤ _; simp; omega⟩
  | h1 l s ih =>
    obtain ⟨i1, i2⟩ := ih fun x hx => h x (List.mem_append.2 (.inl hx))
    obtain ⟨x, hx, ho⟩ := h s (by simp)
    obtain ⟨h1, h2, h3, h4, h5⟩ := ho
    rw [leave_snoc, (vis_some hx).1]
    have := dist_bd ((leaveV v t l).px, (leaveV v t l).py) (x.px, x.py)
    unfold goE arV
    dsimp only
    rw [List.length_append, List.length_singleton]
    omega
theorem res_pt {fn : Func} {p c : Tmp} (h : fn.results = #[.cell p 32, .tmp c]) {tmps : Array Value} {w : World} {g : Nat} {x y b : Value} (hp : tmps.getD p undef = .pointer (some ⟨g, 0, none⟩)) (hc : tmps.getD c undef = b)
    (c0 : w.cell? ⟨g, 0, none⟩ = some x) (c1 : w.cell? ⟨g, 1, none⟩ = some y) : (results fn tmps).run Tryd.prog w = .ok (.tuple #[.agg #[x, y], b]) w := by
  have hp' : tmps[p]?.getD undef = .pointer (some ⟨g, 0, none⟩) := by simpa using hp
  have hc' : tmps[c]?.getD undef = b := by simpa using hc
  simp only [results, h]
  go_simp
theorem ret_lv {a b c d e f : Int} (h : a = d) (h2 : b = e) (h3 : c = f) : Ending.returned (.tuple #[.agg #[.int .i64 a, .int .i64 b], .int .i64 c]) = .returned (.tuple #[.agg #[.int .i64 d, .int .i64 e], .int .i64 f]) := by rw [h, h2, h3]

set_option maxRecDepth 100000 in
set_option maxHeartbeats 4000000 in
theorem Leaves_any (v : Vh) (vl vt : Value) (l : List (Int × Int)) (t : List Rq) (hl : l.length ≤ 100) (hst : 0 ≤ v.st ∧ v.st ≤ 1048576) (hvis : ∀ s ∈ l, ∃ x, visO t s = some x ∧ OkVi x) (w : World) (hL : Row w.heap.size w vl l) (hT : Rqs w.heap.size w vt t) :
    Calls Tryd.prog 52 #[.agg #[.int .i64 v.hx, .int .i64 v.hy, .int .i64 v.cp, .int .i64 v.st, .int .i64 v.en], vl, vt] w fun e w' =>
      e = .returned (.tuple #[.agg #[.int .i64 (leaveV v t l).px, .int .i64 (leaveV v t l).py], .int .i64 (leaveV v t l).now]) ∧ Below w.heap.size w w' := by
  obtain ⟨xt, Nt, capt, rfl, hNt, htc1, htc2, ht0⟩ := hT.opened
  obtain ⟨xl, N, capl, rfl, hN', h0', hlc1, hlc2⟩ := hL.opened
  obtain ⟨q, hq⟩ : ∃ q, w.heap.size = q := ⟨_, rfl⟩
  have hNt' := Lib.hid hNt
  have hlN : N ≤ 100 := by rw [← hN'.out]; exact hl
  rw [hq] at hL hT ⊢
  have hL' := Lib.hid hL
  have hT' := Lib.hid hT
  have hq' := Lib.hid hq
  have hvis' := Lib.hid hvis
  have hbdl := Lib.hid (fun (k : Nat) => leave_bd hst (l := l.take k) fun s hs => hvis s (List.mem_of_mem_take hs))
  unfold maxLen at htc2 hlc2
  obtain ⟨w1, hw1⟩ : ∃ w1, (w.alloc (.cells #[.int .i64 v.hx, .int .i64 v.hy, .int .i64 v.cp, .int .i64 v.st, .int .i64 v.en] 34)).alloc (.cells #[.int .i64 0, .int .i64 0] 32) = w1 := ⟨_, rfl⟩
  have hV1 : At w1 q 34 #[.int .i64 v.hx, .int .i64 v.hy, .int .i64 v.cp, .int .i64 v.st, .int .i64 v.en] := by rw [← hw1]; exact (At.new_ _ _ _ hq.symm).alloc _
  have hR1 : At w1 (q + 1) 32 #[.int .i64 0, .int .i64 0] := by rw [← hw1]; exact At.new_ _ _ _ (by simp [hq])
  have hb1 : Below q w w1 := by rw [← hw1]; exact ((Below.refl _ _).alloc (by omega) _).alloc (by simp; omega) _
  have hs1 : w1.heap.size = q + 2 := by rw [← hw1]; simp [hq]
  have hs1' := Lib.hid hs1
  have hw1' := Lib.hid hw1
  clear hT hNt ht0 hL hl h0' hvis hw1 hs1 hq hst
  go_enter Tryd.func52, Tryd.ntmps52
  go_upto_region 1 with fail
  simp only [hq'.out]
  rw [hw1'.out]
  have c0 := hV1.cell 0
  have c1 := hV1.cell 1
  have c3 := hV1.cell 3
  simp at c0 c1 c3
  go_cut [8, 9] from 12 to 15 (fun s8 s9 wx => s8 = .pointer (some ⟨q + 2, 0, none⟩) ∧ s9 = .int .i64 v.st ∧ At wx (q + 2) 32 #[.int .i64 v.hx, .int .i64 v.hy] ∧ Below w1.heap.size w1 wx)
  case first =>
    have hsz : w1.heap.size = q + 2 := hs1'.out
    go_region
    all_goals
      go_wp2_with fail
      go_meet
      refine ⟨by rw [← hs1'.out], rfl, ?_, ?_⟩
      · rw [← hs1'.out]
        repeat (first | with_reducible exact At.new_ _ _ _ rfl | (with_reducible refine At.new_ _ _ _ ?_; simp; done) | with_reducible refine At.far ?_ (by simp <;> omega) _ _ | with_reducible refine At.drew ?_ | with_reducible refine At.alloc ?_ _)
      · repeat (first | with_reducible refine Below.drew ?_ | with_reducible refine Below.setCell ?_ (by simp) _ | with_reducible refine Below.alloc ?_ (by simp <;> omega) _ | with_reducible exact Below.refl _ _)
  case rest =>
  obtain ⟨rfl, rfl, hA2, hb2⟩ := hcut
  obtain ⟨w2, rfl⟩ : ∃ w2, w2 = wc := ⟨_, rfl⟩
  have hR2 := hR1.keep hb2 hR1.inside
  have hB2 : Below q w w2 := hb1.trans (hb2.mono (by rw [hs1'.out]; omega))
  clear hb2 hV1 hR1 c0 c1 c3 hb1
  go_wp2
  go_loopw [9, 10] (fun nv i wr => ∃ k : Nat, i = .int .i64 k ∧ k ≤ N ∧ nv = .int .i64 (leaveV v t (l.take k)).now ∧ At wr (q + 2) 32 #[.int .i64 (leaveV v t (l.take k)).px, .int .i64 (leaveV v t (l.take k)).py] ∧ At wr (q + 1) 32 #[.int .i64 0, .int .i64 0] ∧ Below q w wr) (fun _ i _ => N - (intOf i).toNat)
  case atStart => exact ⟨0, rfl, Nat.zero_le _, rfl, hA2, hR2, hB2⟩
  case round =>
    obtain ⟨k, rfl, hk, rfl, hA, hR, hB⟩ := hrel
    clear hA2 hR2 hB2
    by_cases hlt : k < N
    · obtain ⟨⟨s1, s2⟩, hs⟩ : ∃ s, l[k]? = some s := ⟨l[k]'(by rw [hN'.out]; exact hlt), List.getElem?_eq_getElem _⟩
      obtain ⟨x, hx, hok⟩ := hvis'.out _ (List.mem_of_getElem? hs)
      obtain ⟨hx1, hx2, hx3, hx4, hx5⟩ := hok
      have hlt2 : (k : Int) < N := by omega
      have hstop : Hid (∀ W, Below q w W → ∃ g o, xl = some ⟨g, o, none⟩ ∧ W.cell? ⟨g, o + k * 2, none⟩ = some (.int .i64 s1) ∧ W.cell? ⟨g, o + k * 2 + 1, none⟩ = some (.int .i64 s2)) := Lib.hid fun W hW => by
        obtain ⟨g, o, e, _, h1, h2⟩ := Row.stop (hL'.out.keep hW (Nat.le_refl _)) hs
        exact ⟨g, o, e, h1, h2⟩
      obtain ⟨gl, ol, rfl, -, -⟩ := hstop.out wr hB
      obtain ⟨qr, hqr, hr0, hr1, hsv, -⟩ := visO_some hx
      simp only at hqr hr0 hr1 hsv
      obtain ⟨j, rfl⟩ : ∃ j : Nat, s1 = j := ⟨s1.toNat, by omega⟩
      simp only [Int.toNat_natCast] at hqr
      have hj1 : j < Nt := by have := hNt'.out; omega
      have hj2 : (j : Int) < Nt := by omega
      obtain ⟨gt, ot, rfl, -, -⟩ := Rqs.at (hT'.out.keep hB (Nat.le_refl _)) hqr
      have hmem : Hid (∀ W, Below q w W → W.cell? ⟨gl, ol + k * 2, none⟩ = some (.int .i64 j) ∧ W.cell? ⟨gl, ol + k * 2 + 1, none⟩ = some (.int .i64 s2) ∧ W.cell? ⟨gt, ot + j * 10 + 9, none⟩ = some (.int .i64 x.sv)) := Lib.hid fun W hW => by
        obtain ⟨g, o, e, h1, h2⟩ := hstop.out W hW
        cases e
        obtain ⟨g2, o2, e2, _, h3⟩ := Rqs.at (hT'.out.keep hW (Nat.le_refl _)) hqr
        cases e2
        exact ⟨h1, h2, by rw [hsv]; exact h3.2.2.2.2.2.2.2.2.2⟩
      have hx' := Lib.hid hx
      have hnx : Hid (leaveV v t (l.take (k + 1)) = goE (leaveV v t (l.take k)) x) := Lib.hid (by rw [Route.take_get hs, leave_snoc, (vis_some hx).1])
      obtain ⟨hn1, hn2⟩ := hbdl.out k
      have hlk : ((l.take k).length : Int) ≤ 100 := by rw [List.length_take]; omega
      obtain ⟨S, hS⟩ : ∃ S, leaveV v t (l.take k) = S := ⟨_, rfl⟩
      rw [hS] at hA hnx hn1 hn2 ⊢
      obtain ⟨now, ax, ay⟩ := S
      simp only at hA hn1 hn2 ⊢
      have hn3 : now ≤ 200000000 := by omega
      clear hs hx hqr hr0 hr1 hsv hS hn2 hlk
      obtain ⟨e0, e1, e9⟩ := hmem.out wr hB
      have hAi := hA.inside
      have hpl := rPlace_any j s2 _ t x wr hx'.out ((hT'.out.keep hB (Nat.le_refl _)).more (by omega))
      go_wp2_with fail
      refine hpl.mono ?_
      clear hpl e0 e1 e9
      rintro e w4 ⟨rfl, hb4⟩
      obtain ⟨m1, hm1⟩ : ∃ m1, w4.heap.size = m1 := ⟨_, rfl⟩
      obtain ⟨w5, hw5⟩ : ∃ w5, w4.alloc (.cells #[.int .i64 x.px, .int .i64 x.py] 32) = w5 := ⟨_, rfl⟩
      have hX5 : At w5 m1 32 #[.int .i64 x.px, .int .i64 x.py] := by rw [← hw5]; exact At.new_ _ _ _ hm1.symm
      have hb5 : Below w4.heap.size w4 w5 := by rw [← hw5]; exact (Below.refl _ _).alloc (Nat.le_refl _) _
      have hb35 := hb4.trans (hb5.mono hb4.size)
      have hA5 := hA.keep hb35 hA.inside
      have hR5 := hR.keep hb35 hR.inside
      have hB5 := hB.trans (hb35.mono (by omega))
      have hm1q : q + 2 < m1 := by have := hb4.size; omega
      have hw5' := Lib.hid hw5
      have hm1' := Lib.hid hm1
      clear hb4 hb5 hb35 hA hR hB hw5 hm1 hAi
      go_upto_region 6 with fail
      simp only [hm1'.out]
      rw [hw5'.out]
      obtain ⟨D, hD⟩ : ∃ D, distV (ax, ay) (x.px, x.py) = D := ⟨_, rfl⟩
      have hDb : 0 ≤ D ∧ D ≤ 100000 := by rw [← hD]; exact dist_bd _ _
      obtain ⟨hD1, hD2⟩ := hDb
      have hcD := fun d os => Calls.regrown_of (refDist_any ax ay x.px x.py (grow (redrawn w5 d) os))
      rw [hD] at hcD
      have hD' := Lib.hid hD
      clear hD
      have a0 := hA5.cell 0
      have a1 := hA5.cell 1
      have x0 := hX5.cell 0
      have x1 := hX5.cell 1
      simp at a0 a1 x0 x1
      obtain ⟨e0, e1, e9⟩ := hmem.out w5 hB5
      have ka0 := cell_regrown a0
      have ka1 := cell_regrown a1
      have kx0 := cell_regrown x0
      have kx1 := cell_regrown x1
      have ke0 := cell_regrown e0
      have ke1 := cell_regrown e1
      have ke9 := cell_regrown e9
      have hs7 : q ≤ w5.heap.size := by have := hA5.inside; omega
      have kW := fun d os => Calls.regrown_of (rWindow_any j s2 _ t x (grow (redrawn w5 d) os) hx'.out ((hT'.out.keep (hB5.trans ((below_regrown w5 d os).mono hs7)) (Nat.le_refl _)).more (Nat.le_trans hs7 (below_regrown w5 d os).size)))
      have hfl : ∀ W, (Instr.field 60 (.agg #[.int .i64 x.we, .int .i64 x.wl]) 0).run Tryd.prog W = .ok (.int .i64 x.we) W := fun _ => by kernel_rfl
      refine wp_region_quiet_below (by kernel_rfl) (by kernel_rfl) ?_
      repeat (go_big_quiet_step (first | with_reducible exact kW _ _ | with_reducible exact hcD _ _))
      refine wpQuiet_nil ?_
      intro _ hw'
      obtain ⟨⟨dq, osq⟩, hw''⟩ := hw'
      subst hw''
      have hb8 := below_regrown w5 dq osq
      have hX8 := hX5.keep hb8 hX5.inside
      have hA8 := hA5.keep hb8 hA5.inside
      have hR8 := hR5.keep hb8 hR5.inside
      have hB8 := hB5.trans (hb8.mono hs7)
      clear kW ke0 ke1 ke9 ka0 ka1 kx0 kx1 e0 e1 e9 a0 a1 x0 x1 hfl hs7 hA5 hX5 hR5 hB5 hb8 hcD
      generalize grow (redrawn w5 dq) osq = w8 at *
      have x0 := hX8.cell 0
      have x1 := hX8.cell 1
      have a0 := hA8.cell 0
      have a1 := hA8.cell 1
      have af := hA8.free
      simp at x0 x1 a0 a1
      have hqm : q + 2 ≠ m1 := by omega
      have hqm' : m1 ≠ q + 2 := by omega
      have hAi := hA8.inside
      have hA9 := put2 (y0 := .int .i64 x.px) (y1 := .int .i64 x.py) hA8
      have hR9 := (hR8.far (b := q + 2) (by omega) 0 (.int .i64 x.px)).far (b := q + 2) (by omega) 1 (.int .i64 x.py)
      have hB9 : Below q w ((w8.setCell ⟨q + 2, 0, none⟩ (.int .i64 x.px)).setCell ⟨q + 2, 1, none⟩ (.int .i64 x.py)) := (hB8.setCell (by simp) _).setCell (by simp) _
      have hgo : Hid (goE ⟨now, ax, ay⟩ x = ⟨max (now + D) x.we + x.sv, x.px, x.py⟩) := Lib.hid (by unfold goE arV; rw [hD'.out])
      go_wp2
      go_roundw
      case rel =>
        refine ⟨k + 1, by go_num, hlt, ?_, ?_, ?_, ?_⟩
        · rw [hnx.out, hgo.out]
        · rw [hnx.out, hgo.out]; exact hA9
        · exact hR9
        · exact hB9
      case measure => simp [intOf]; omega
    · obtain rfl : k = N := by omega
      have he : Hid (leaveV v t (l.take k) = leaveV v t l) := Lib.hid (by rw [← hN'.out, List.take_length])
      generalize leaveV v t (l.take k) = S at *
      have a0 := hA.cell 0
      have a1 := hA.cell 1
      have r0 := hR.cell 0
      have r1 := hR.cell 1
      have rf := hR.free
      simp at a0 a1 r0 r1
      have hAi := hA.inside
      have hRf := put2 (y0 := .int .i64 S.px) (y1 := .int .i64 S.py) hR
      have hBf : Below q w ((wr.setCell ⟨q + 1, 0, none⟩ (.int .i64 S.px)).setCell ⟨q + 1, 1, none⟩ (.int .i64 S.py)) := (hB.setCell (by simp) _).setCell (by simp) _
      have z0 := hRf.cell 0
      have z1 := hRf.cell 1
      simp at z0 z1
      go_wp2
      refine bodyPost_ret (res_pt rfl (x := .int .i64 S.px) (y := .int .i64 S.py) (b := .int .i64 S.now) (g := q + 1) (by go_simp) (by go_simp) z0 z1) rfl ?_
      exact ⟨ret_lv (by rw [he.out]) (by rw [he.out]) (by rw [he.out]), hBf⟩

end Go.Proofs.YteefkijmodcijaaDoor.Feas

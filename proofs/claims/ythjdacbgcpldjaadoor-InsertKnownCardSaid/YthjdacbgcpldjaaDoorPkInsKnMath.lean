import Derived.Test.YthjdacbgcpldjaaDoorPkInsBits
import Derived.Test.YthjdacbgcpldjaaDoorPkInsOpenMath
import Derived.Test.YthjdacbgcpldjaaDoorPkSchedVK
import Derived.Test.YthjdacbgcpldjaaDoorPkRouteRefChk
import Derived.Test.YthjdacbgcpldjaaDoorPkLoadSgn
import Derived.Test.YthjdacbgcpldjaaDoorPkOpen

/-
  What InsertKnown's walk needs: the closed facts, and the rows that its loop makes.
-/
namespace Go.Proofs.YthjdacbgcpldjaaDoor.Ins
open Go.RowKit Go.Sort Go.Shelf Go.Proofs.YthjdacbgcpldjaaDoor.Mem Go.Proofs.YthjdacbgcpldjaaDoor.Route Go.Proofs.YthjdacbgcpldjaaDoor.When Go.Proofs.YthjdacbgcpldjaaDoor.Load Go.Proofs.YthjdacbgcpldjaaDoor.Up
set_option linter.unusedVariables false

def vBk : Vh := ⟨0, 0, 0, 0, 40⟩
def vLk : Vh := ⟨0, 0, 5, 0, 19⟩
def q0k : Rq := ⟨0, 0, 0, 0, 0, 0, 0, 0, 0, 0⟩
def qAk : Rq := ⟨0, 0, 0, 0, 0, 40, 0, 40, 1, 0⟩
def manyK : Nat → List (Int × Int)
  | 0 => []
  | k + 1 => manyK k ++ [((k : Int), 0), ((k : Int), 1)]
def allK (k : Nat) : List Rq := List.replicate k qAk
theorem manyK_len : ∀ k, (manyK k).length = 2 * k
  | 0 => rfl
  | k + 1 => by rw [manyK, List.length_append, manyK_len k]; simp; omega
theorem allK_snoc (k : Nat) : allK (k + 1) = allK k ++ [qAk] := List.replicate_succ'
theorem flatQ_snocI (t : List Rq) (q : Rq) : flatQ (t ++ [q]) = flatQ t ++ [.int .i64 q.fx, .int .i64 q.fy, .int .i64 q.tx, .int .i64 q.ty, .int .i64 q.pe, .int .i64 q.pl, .int .i64 q.de, .int .i64 q.dl, .int .i64 q.ld, .int .i64 q.sv] := by simp [flatQ, rqV]
theorem flatS_snoc2 (k : Nat) : flatS (manyK (k + 1)) = flatS (manyK k) ++ [.int .i64 k, .int .i64 0, .int .i64 k, .int .i64 1] := by rw [manyK, flatS_append]; rfl
theorem pairs_16 : (pairsL 16).length = 153 := by decide +kernel
theorem pairs_bd : ∀ x ∈ pairsL 16, 0 ≤ x.1 ∧ x.1 ≤ x.2 ∧ x.2 ≤ 16 := by decide +kernel
theorem pairs_17 : pairsL 17 = [] := by decide +kernel
theorem knD0 : detV vLk lW tW 1 0 0 = 0 := by decide +kernel
theorem knW0 : withE vLk lW tW 1 0 0 = 9 := by decide +kernel
theorem knD1 : detV vW ((manyK 8).take 14) (allK 9) 8 3 9 = 0 := by decide +kernel
theorem knW1 : withE vW ((manyK 8).take 14) (allK 9) 8 3 9 = 0 := by decide +kernel
theorem knE0 : riseE vBk lW tW 0 0 0 = 8 := by decide +kernel
theorem knV0 : riseV vBk lW tW 0 0 0 = 0 := by decide +kernel
theorem knE1 : riseE vBk lW tW 1 9 9 = 2 := by decide +kernel
theorem knV1 : riseV vBk lW tW 1 9 9 = 0 := by decide +kernel
theorem knE2 : riseE vW lW (tW ++ [q0k]) 1 0 0 = 2 := by decide +kernel
theorem knV2 : riseV vW lW (tW ++ [q0k]) 1 0 0 = 0 := by decide +kernel
theorem knE3 : riseE vW (lW.take 1) tW 1 0 0 = 8 := by decide +kernel
theorem knV3 : riseV vW (lW.take 1) tW 1 0 0 = 0 := by decide +kernel
theorem knE4 : riseE vLk lW tW 1 0 0 = 9 := by decide +kernel
theorem knV4 : riseV vLk lW tW 1 0 0 = 0 := by decide +kernel
theorem knE5 : riseE vW (manyK 8) (allK 9) 8 40 40 = 11 := by decide +kernel
theorem knV5 : riseV vW (manyK 8) (allK 9) 8 40 40 = 0 := by decide +kernel
theorem knE6 : riseE vW ((manyK 8).take 14) (allK 9) 8 3 9 = 0 := by decide +kernel
theorem knV6 : riseV vW ((manyK 8).take 14) (allK 9) 8 3 9 = 0 := by decide +kernel
theorem knE7 : riseE vW ((manyK 8).take 14) (allK 9) 8 3 15 = 8 := by decide +kernel
theorem knV7 : riseV vW ((manyK 8).take 14) (allK 9) 8 3 15 = 0 := by decide +kernel
theorem nums_kn : ∀ l : List (Int × Int), (l.all fun s => decide (-100 ≤ s.1 ∧ s.1 ≤ 100 ∧ -100 ≤ s.2 ∧ s.2 ≤ 100)) = true → Nums l := by
  intro l h s hs
  have := List.all_eq_true.1 h s hs
  simp at this
  unfold I64
  omega
theorem many_nums : Nums (manyK 8) := nums_kn _ (by decide +kernel)
theorem many14_nums : Nums ((manyK 8).take 14) := nums_kn _ (by decide +kernel)
theorem l1_nums : Nums (lW.take 1) := nums_kn _ (by decide +kernel)

/-- The two rows that the loop makes. -/
def LoopN (M : Nat) (w5 : World) (k : Nat) (u7 u8 : Value) (W : World) : Prop :=
  (∃ x c, u7 = .slice x (2 * min k 8) c) ∧ (∃ x c, u8 = .slice x k c) ∧ W.ownsRow M 66 2 u7 (2 * min k 8) (flatS (manyK (min k 8))) ∧ W.ownsRow M 60 10 u8 k (flatQ (allK k)) ∧ Below M w5 W
theorem LoopN.mk_ {M : Nat} {w5 : World} {k : Nat} {x y : Option Addr} {a b c d : Nat} {W : World} (ha : a = 2 * min k 8) (hb : b = k) (h1 : W.ownsRow M 66 2 (.slice x a c) a (flatS (manyK (min k 8)))) (h2 : W.ownsRow M 60 10 (.slice y b d) b (flatQ (allK k))) (h3 : Below M w5 W) : LoopN M w5 k (.slice x a c) (.slice y b d) W := by
  subst ha hb
  exact ⟨⟨_, _, rfl⟩, ⟨_, _, rfl⟩, h1, h2, h3⟩
theorem rowApartI {W : World} {b b' : Nat} {e e' : TypeId} {s s' : Nat} {v v' : Value} {n n' : Nat} {xs xs' : List Value} (h : W.ownsRow b e s v n xs) (h' : W.ownsRow b' e' s' v' n' xs') (ht : e ≠ e') : v.ownBlock = none ∨ v.ownBlock ≠ v'.ownBlock := by
  have at_ : ∀ {b s n k : Nat} {e : TypeId} {v : Value} {xs : List Value}, W.ownsRow b e s v n xs → v.ownBlock = some k → ∃ cs, At W k e cs := by
    intro b s n k e v xs h hv
    obtain ⟨hl, ⟨rfl, h0⟩ | ⟨g, cap, cur, rfl, hb, hg, hc1, hc2, hs, ht⟩⟩ := h
    · cases hv
    · simp only [Value.ownBlock, Option.some.injEq] at hv
      subst hv
      exact ⟨_, hg⟩
  cases e1 : v.ownBlock with
  | none => exact .inl rfl
  | some k =>
    refine .inr fun e2 => ?_
    obtain ⟨c1, h1⟩ := at_ h e1
    obtain ⟨c2, h2⟩ := at_ h' e2.symm
    unfold At at h1 h2
    rw [h1] at h2
    cases h2
    exact ht rfl

/-- What InsertKnown holds, once its rows are made. -/
structure KnAt (w : World) (q gv gs gh gl gt : Nat) (vo vm va : Value) (W : World) : Prop where
  r : At W q 4 #[.bool false]
  v : At W gv 28 #[.int .i64 0, .int .i64 0, .int .i64 5, .int .i64 0, .int .i64 40]
  s : At W gs 28 #[.int .i64 0, .int .i64 0, .int .i64 0, .int .i64 0, .int .i64 40]
  h : At W gh 28 #[.int .i64 0, .int .i64 0, .int .i64 5, .int .i64 0, .int .i64 19]
  l : At W gl 66 #[.int .i64 0, .int .i64 0, .int .i64 0, .int .i64 1]
  t : At W gt 60 #[.int .i64 5, .int .i64 0, .int .i64 9, .int .i64 0, .int .i64 0, .int .i64 20, .int .i64 0, .int .i64 30, .int .i64 3, .int .i64 1, .int .i64 5, .int .i64 3, .int .i64 9, .int .i64 3, .int .i64 0, .int .i64 40, .int .i64 0, .int .i64 40, .int .i64 2, .int .i64 0]
  o : Rqs W.heap.size W vo (tW ++ [q0k])
  m : Row W.heap.size W vm (manyK 8)
  a : Rqs W.heap.size W va (allK 9)
  sg : Sg W
  b : Below w.heap.size w W
theorem KnAt.on {w W W' : World} {q gv gs gh gl gt : Nat} {vo vm va : Value} (h : KnAt w q gv gs gh gl gt vo vm va W) (hb : Below W.heap.size W W') : KnAt w q gv gs gh gl gt vo vm va W' :=
  ⟨h.r.keep hb h.r.inside, h.v.keep hb h.v.inside, h.s.keep hb h.s.inside, h.h.keep hb h.h.inside, h.l.keep hb h.l.inside, h.t.keep hb h.t.inside, h.o.on hb, h.m.on hb, h.a.on hb, h.sg.on hb, h.b.trans (hb.mono h.b.size)⟩
theorem KnAt.row {w W : World} {q gv gs gh gl gt : Nat} {vo vm va : Value} (h : KnAt w q gv gs gh gl gt vo vm va W) : Row W.heap.size W (.slice (some ⟨gl, 0, none⟩) 2 2) lW := row_of (l := lW) (k := 2) h.l rfl (by decide) (by decide) (by decide)
theorem KnAt.rqs {w W : World} {q gv gs gh gl gt : Nat} {vo vm va : Value} (h : KnAt w q gv gs gh gl gt vo vm va W) : Rqs W.heap.size W (.slice (some ⟨gt, 0, none⟩) 2 2) tW := rqs_of (l := tW) (k := 2) h.t rfl (by decide) (by decide) (by decide)
/-- What a range over the places of 16 holds: how many have come. -/
structure CntI (n : Nat) (w7 : World) (pre : List (Int × Int)) (W : World) : Prop where
  at_ : At W n 3 #[.int .i64 pre.length]
  num : At W (n + 1) 3 #[.int .i64 16]
  below : Below n w7 W
theorem CntI.old {n m : Nat} {w7 : World} (hn : n ≤ m) (h7 : n ≤ w7.heap.size) : Old m (CntI n w7) := by
  rintro pre A A' row h hg hr
  exact ⟨At.oldCells h.at_ hg hr, At.oldCells h.num hg hr, h.below.grown hg (Nat.le_trans h7 h.below.size) (fun k e => by have := (hr k e).1; omega)⟩

end Go.Proofs.YthjdacbgcpldjaaDoor.Ins

/-
  InsertKnown returns true: rows that are none, too short, too long; which fault comes first; how many pairs of places there are. Generated: InsKnown.gen.py.
-/
namespace Go.Proofs.YthjdacbgcpldjaaDoor.Ins
open Go.RowKit Go.Sort Go.Shelf Go.Proofs.YthjdacbgcpldjaaDoor.Mem Go.Proofs.YthjdacbgcpldjaaDoor.Route Go.Proofs.YthjdacbgcpldjaaDoor.When Go.Proofs.YthjdacbgcpldjaaDoor.Load Go.Proofs.YthjdacbgcpldjaaDoor.Feas Go.Proofs.YthjdacbgcpldjaaDoor.Up
set_option linter.unusedVariables false
set_option linter.unusedSimpArgs false

attribute [local go_sem] Oper.semAt_some

set_option maxRecDepth 100000 in
set_option maxHeartbeats 16000000 in
theorem insertKnown_any (w : World) (hsg : Sg w) : Calls Tryd.prog 9 #[] w fun e w' => e = .returned (.bool true) ∧ Below w.heap.size w w' := by
  obtain ⟨iS, hiS, hS0, hS1, hS2⟩ := info_parts info_stop
  obtain ⟨iQ, hiQ, hQ0, hQ1, hQ2⟩ := info_parts info_request
  obtain ⟨q, hq⟩ : ∃ q, w.heap.size = q := ⟨_, rfl⟩
  obtain ⟨w0, hw0⟩ : ∃ w0, w.alloc (.cells #[.bool false] 4) = w0 := ⟨_, rfl⟩
  have hb0 : Below w.heap.size w w0 := by rw [← hw0]; exact (Below.refl _ _).alloc (Nat.le_refl _) _
  have hR0 : At w0 q 4 #[.bool false] := by rw [← hw0]; exact At.new_ _ _ _ hq.symm
  have hsg0 := hsg.on hb0
  refine (callsIn_wide (n := 3)).1 ?_
  refine callsIn_of_wp_marks Tryd.func9 rfl trivial ?_ rfl
  simp only [Tryd.ntmps9, List.size_toArray, List.length_nil, Nat.reduceSub, Array.replicate_succ, Array.replicate_zero, List.push_toArray, List.append_toArray, List.nil_append, List.cons_append]
  refine wpIn_wide.2 ?_
  go_wp2_with fail
  try simp only [hq]
  try rw [hw0]
  refine (chapter_any w0).mono ?_
  rintro e w1 ⟨⟨gl, gt, rfl, hL, hT⟩, hb1⟩
  obtain ⟨p, hp⟩ : ∃ p, w1.heap.size = p := ⟨_, rfl⟩
  obtain ⟨w2, hw2⟩ : ∃ w2, w1.alloc (.cells #[.int .i64 0, .int .i64 0, .int .i64 5, .int .i64 0, .int .i64 40] 28) = w2 := ⟨_, rfl⟩
  have hV : At w2 p 28 #[.int .i64 0, .int .i64 0, .int .i64 5, .int .i64 0, .int .i64 40] := by rw [← hw2]; exact At.new_ _ _ _ hp.symm
  have hb2 : Below w1.heap.size w1 w2 := by rw [← hw2]; exact (Below.refl _ _).alloc (Nat.le_refl _) _
  have hR2 := (hR0.keep hb1 hR0.inside).keep hb2 ((hR0.keep hb1 hR0.inside).inside)
  have hL2 := hL.keep hb2 hL.inside
  have hT2 := hT.keep hb2 hT.inside
  have hB2 := (hb0.trans (hb1.mono hb0.size)).trans (hb2.mono (Nat.le_trans hb0.size hb1.size))
  have hlp : gl < p := by have := hL.inside; omega
  have htp : gt < p := by have := hT.inside; omega
  have hqp : q < p := by have := hR0.inside; have := hb1.size; omega
  have hsg2 := (hsg0.on hb1).on hb2
  have hw2' := Lib.hid hw2
  have hp' := Lib.hid hp
  have hq' := Lib.hid hq
  clear hL hT hb0 hb1 hb2 hw2 hp hq hw0 hR0 hsg hsg0
  go_upto_region 2 with fail
  simp only [hp'.out]
  rw [hw2'.out]
  have hpi := hV.inside
  go_cut [4, 5] from 22 to 23 (fun s4 s5 wx => ∃ gs gh, s4 = .pointer (some ⟨gs, 0, none⟩) ∧ s5 = .pointer (some ⟨gh, 0, none⟩) ∧ gs ≠ gh ∧ w2.heap.size ≤ gs ∧ w2.heap.size ≤ gh ∧ At wx gs 28 #[.int .i64 0, .int .i64 0, .int .i64 5, .int .i64 0, .int .i64 40] ∧ At wx gh 28 #[.int .i64 0, .int .i64 0, .int .i64 5, .int .i64 0, .int .i64 40] ∧ Below w2.heap.size w2 wx)
  case first =>
    have c0 := hV.cell 0
    have c1 := hV.cell 1
    have c2 := hV.cell 2
    have c3 := hV.cell 3
    have c4 := hV.cell 4
    simp at c0 c1 c2 c3 c4
    go_region
    all_goals
      go_wp2_with fail
      go_meet
      refine ⟨_, _, rfl, rfl, by simp, by simp, by simp, ?_, ?_, ?_⟩
      · repeat (first | with_reducible exact At.new_ _ _ _ rfl | (with_reducible refine At.new_ _ _ _ ?_; simp; done) | with_reducible refine At.far ?_ (by simp <;> omega) _ _ | with_reducible refine At.drew ?_ | with_reducible refine At.alloc ?_ _)
      · repeat (first | with_reducible exact At.new_ _ _ _ rfl | (with_reducible refine At.new_ _ _ _ ?_; simp; done) | with_reducible refine At.far ?_ (by simp <;> omega) _ _ | with_reducible refine At.drew ?_ | with_reducible refine At.alloc ?_ _)
      · repeat (first | with_reducible refine Below.drew ?_ | with_reducible refine Below.setCell ?_ (by simp) _ | with_reducible refine Below.alloc ?_ (by simp <;> omega) _ | with_reducible exact Below.refl _ _)
  case rest =>
  obtain ⟨gs, gh, rfl, rfl, hne, hgs, hgh, hS, hH, hb3⟩ := hcut
  obtain ⟨w3, rfl⟩ : ∃ w3, w3 = wc := ⟨_, rfl⟩
  have hR3 := hR2.keep hb3 hR2.inside
  have hV3 := hV.keep hb3 hpi
  have hL3 := hL2.keep hb3 hL2.inside
  have hT3 := hT2.keep hb3 hT2.inside
  have hB3 := hB2.trans (hb3.mono hB2.size)
  have hsg3 := hsg2.on hb3
  have s2 := hS.cell 2
  have sf := hS.free
  have h4 := hH.cell 4
  have hf := hH.free
  simp at s2 h4
  have hltq : p < gs ∧ p < gh := by omega
  have hqw : w.heap.size ≤ p := by have := hq'.out; omega
  go_upto_region 5 with fail
  have hS4 : At ((w3.setCell ⟨gs, 2, none⟩ (.int .i64 0)).setCell ⟨gh, 4, none⟩ (.int .i64 19)) gs 28 #[.int .i64 0, .int .i64 0, .int .i64 0, .int .i64 0, .int .i64 40] := by simpa using (hS.put 2 (.int .i64 0)).far hne 4 (.int .i64 19)
  have hH4 : At ((w3.setCell ⟨gs, 2, none⟩ (.int .i64 0)).setCell ⟨gh, 4, none⟩ (.int .i64 19)) gh 28 #[.int .i64 0, .int .i64 0, .int .i64 5, .int .i64 0, .int .i64 19] := by simpa using (hH.far hne.symm 2 (.int .i64 0)).put 4 (.int .i64 19)
  have hR4 := (hR3.far (b := gs) (by omega) 2 (.int .i64 0)).far (b := gh) (by omega) 4 (.int .i64 19)
  have hV4 := (hV3.far (b := gs) (by omega) 2 (.int .i64 0)).far (b := gh) (by omega) 4 (.int .i64 19)
  have hL4 := (hL3.far (b := gs) (by omega) 2 (.int .i64 0)).far (b := gh) (by omega) 4 (.int .i64 19)
  have hT4 := (hT3.far (b := gs) (by omega) 2 (.int .i64 0)).far (b := gh) (by omega) 4 (.int .i64 19)
  have hB4 := (hB3.setCell (p := ⟨gs, 2, none⟩) (by simp; omega) (.int .i64 0)).setCell (p := ⟨gh, 4, none⟩) (by simp; omega) (.int .i64 19)
  have hsg4 : Sg ((w3.setCell ⟨gs, 2, none⟩ (.int .i64 0)).setCell ⟨gh, 4, none⟩ (.int .i64 19)) := hsg3.keep (((Below.refl w2.heap.size w3).setCell (p := ⟨gs, 2, none⟩) hgs _).setCell (p := ⟨gh, 4, none⟩) hgh _) hsg2.pos
  clear s2 sf h4 hf hV3 hL3 hT3 hB3 hsg3 hS hH hR3 hR2 hV hL2 hT2 hB2 hsg2 hb3
  generalize (w3.setCell ⟨gs, 2, none⟩ (.int .i64 0)).setCell ⟨gh, 4, none⟩ (.int .i64 19) = w4 at *
  have hR4' := Lib.hid hR4
  have hV4' := Lib.hid hV4
  have hS4' := Lib.hid hS4
  have hH4' := Lib.hid hH4
  have hL4' := Lib.hid hL4
  have hT4' := Lib.hid hT4
  have hsg4' := Lib.hid hsg4
  have hB4' := Lib.hid hB4
  have hTq : Hid (Rqs w4.heap.size w4 (.slice (some ⟨gt, 0, none⟩) 2 2) tW) := Lib.hid (rqs_of (l := tW) (k := 2) hT4 rfl (by decide) (by decide) (by decide))
  have hlt4 : Hid (p < w4.heap.size ∧ q < w4.heap.size ∧ w.heap.size ≤ q) := Lib.hid ⟨hV4.inside, hR4.inside, by have := hq'.out; omega⟩
  have hpl : Plain (.slice (some ⟨gt, 0, none⟩) 2 2) := .inr ⟨_, _, _, rfl⟩
  have hpl' := Lib.hid hpl
  clear hR4 hV4 hS4 hH4 hL4 hT4 hsg4 hB4 hne hgs hgh hltq hpi hw2' hlp htp hqp hqw hpl
  go_upto_region 6 with (at_builtin; first | (refine wpList_append_plain rfl _ _ 30 rfl w4.heap.size 60 iQ (.agg #[.int .i64 0, .int .i64 0, .int .i64 0, .int .i64 0, .int .i64 0, .int .i64 0, .int .i64 0, .int .i64 0, .int .i64 0, .int .i64 0]) 10 80 Tryd.underlying30 hiQ hQ0 hQ1 hQ2 rfl (by decide) _ _ _ rfl (ownsEmptyQ rfl (Nat.le_refl _)) _ 2 ⟨_, _, rfl⟩ hpl'.out (flatQ tW) rfl rfl (fun ad c e j u hj => by cases e; exact rqs_flat (hTq.out.on ((Below.refl _ _).alloc (Nat.le_refl _) _ : Below w4.heap.size w4 _)) j u hj) flatQ_one (by unfold maxLen; omega) (by omega) (by simp) ?_; intro v6 w6 hown6 hgrow6; rw [Nat.zero_add, List.nil_append] at hown6; obtain ⟨x6, c6, rfl, _, _⟩ := owns_slice hown6; have hs6 : w4.heap.size ≤ w6.heap.size := by have := hgrow6.size; simp at this; omega) | go_loud (refine wpList_append_own _ rfl _ _ 30 rfl w4.heap.size 60 iQ (.agg #[.int .i64 0, .int .i64 0, .int .i64 0, .int .i64 0, .int .i64 0, .int .i64 0, .int .i64 0, .int .i64 0, .int .i64 0, .int .i64 0]) 10 80 Tryd.underlying30 hiQ hQ0 hQ1 hQ2 rfl (by decide) _ _ _ rfl (hown6.alloc _) ⟨w6.heap.size, 0, none⟩ 1 1 [.int .i64 0, .int .i64 0, .int .i64 0, .int .i64 0, .int .i64 0, .int .i64 0, .int .i64 0, .int .i64 0, .int .i64 0, .int .i64 0] rfl rfl (World.news_of_block (cs := #[.int .i64 0, .int .i64 0, .int .i64 0, .int .i64 0, .int .i64 0, .int .i64 0, .int .i64 0, .int .i64 0, .int .i64 0, .int .i64 0]) (t := 60) (fr := (0, 0)) (heap_alloc_new w6 _)) (by simp [Value.oneCell']) (by unfold maxLen; omega) (by omega) (by simp; omega) ?_; intro v7 w7 hown7 hgrow7 hnil7; obtain ⟨x7, c7, rfl, _, _⟩ := owns_slice hown7))
  have hb6 : RowKit.Below w4.heap.size w4 w6 := (((Below.refl w4.heap.size w4).alloc (Nat.le_refl _) (.cells #[] 60)).grown hgrow6 (by simp) (fun r e => by cases e; exact Nat.le_refl _))
  have hb7 : RowKit.Below w4.heap.size w4 w7 := (hb6.alloc hb6.size _).grown hgrow7 (by have := hb6.size; simp; omega) (fun r e => owns_row hown6 r e)
  have ho7 : Hid (Rqs w7.heap.size w7 (.slice x7 3 c7) (tW ++ [q0k])) := Lib.hid (Rqs.of_owns (B := w7.heap.size) (by rw [flatQ_snocI]; exact hown7) rfl (Nat.le_refl _))
  have hb7' := Lib.hid hb7
  clear hown6 hown7 hgrow6 hgrow7 hnil7 hb6 hb7 hs6
  obtain ⟨M, hM⟩ : ∃ M, w7.heap.size = M := ⟨_, rfl⟩
  have hM' := Lib.hid hM
  have hI0 : LoopN M w7 0 (.slice none 0 0) (.slice none 0 0) w7 := LoopN.mk_ rfl rfl (World.ownsRow_nil _ _ _ _) (World.ownsRow_nil _ _ _ _) (Below.refl _ _)
  clear hM
  go_wp2
  go_loopw [7, 8, 9] (fun a b i wr => ∃ k : Nat, i = .int .i64 k ∧ k ≤ 9 ∧ LoopN M w7 k a b wr) (fun _ _ i _ => 9 - (intOf i).toNat)
  case atStart => exact ⟨0, rfl, Nat.zero_le _, hI0⟩
  case round =>
    obtain ⟨k, rfl, hk, ⟨x1, c1, rfl⟩, ⟨x2, c2, rfl⟩, hm, ha, hbw⟩ := hrel
    clear hI0
    have hMs : M ≤ wr.heap.size := by have := hbw.size; have := hM'.out; omega
    by_cases hlt : k < 9
    · have hlt2 : (k : Int) < 9 := by omega
      have hm' := Lib.hid hm
      have hbw' := Lib.hid hbw
      have har := Lib.hid (owns_row ha)
      have hap := Lib.hid (rowApartI hm ha (by decide))
      clear hm hbw
      go_upto_region 12 with (at_builtin; refine wpList_append_own _ rfl _ _ 30 rfl M 60 iQ (.agg #[.int .i64 0, .int .i64 0, .int .i64 0, .int .i64 0, .int .i64 0, .int .i64 0, .int .i64 0, .int .i64 0, .int .i64 0, .int .i64 0]) 10 80 Tryd.underlying30 hiQ hQ0 hQ1 hQ2 rfl (by decide) _ _ _ rfl (ha.alloc _) ⟨wr.heap.size, 0, none⟩ 1 1 [.int .i64 0, .int .i64 0, .int .i64 0, .int .i64 0, .int .i64 0, .int .i64 40, .int .i64 0, .int .i64 40, .int .i64 1, .int .i64 0] rfl rfl (World.news_of_block (cs := #[.int .i64 0, .int .i64 0, .int .i64 0, .int .i64 0, .int .i64 0, .int .i64 40, .int .i64 0, .int .i64 40, .int .i64 1, .int .i64 0]) (t := 60) (fr := (0, 0)) (heap_alloc_new wr _)) (by simp [Value.oneCell']) (by unfold maxLen; omega) (by omega) (by simp; omega) ?_; intro v8 w8 hown8 hgrow8 hnil8; obtain ⟨x8, c8, rfl, _, _⟩ := owns_slice hown8)
      have hm8 : w8.ownsRow M 66 2 (.slice x1 (2 * min k 8) c1) (2 * min k 8) (flatS (manyK (min k 8))) := (hm'.out.alloc _).kept hgrow8 hap.out
      have hB8 : Below M w7 w8 := (hbw'.out.alloc hMs _).grown hgrow8 (by simp; omega) (fun r e => (har.out r e))
      have hM8 : M ≤ w8.heap.size := by have := hB8.size; have := hM'.out; omega
      have hmr8 := Lib.hid (owns_row hm8)
      have hap8 := Lib.hid (rowApartI hown8 hm8 (by decide))
      have ho8 := Lib.hid hown8
      have hB8' := Lib.hid hB8
      clear hown8 hgrow8 hnil8 ha hB8 hm' hbw'
      by_cases hl8 : k < 8
      · have hl8i : (k : Int) < 8 := by omega
        have e8 : min k 8 = k := by omega
        rw [e8] at hm8 hap8
        simp only [e8]
        have hm8' := hm8
        go_upto_region 10 with (at_builtin; refine wpList_append_own _ rfl _ _ 29 rfl M 66 iS (.agg #[.int .i64 0, .int .i64 0]) 2 16 Tryd.underlying29 hiS hS0 hS1 hS2 rfl (by decide) _ _ _ rfl (hm8'.alloc _) ⟨w8.heap.size, 0, none⟩ 2 2 [.int .i64 k, .int .i64 0, .int .i64 k, .int .i64 1] rfl rfl (World.news_of_block (cs := #[.int .i64 k, .int .i64 0, .int .i64 k, .int .i64 1]) (t := 66) (fr := (0, 0)) (heap_alloc_new w8 _)) (by simp [Value.oneCell']) (by unfold maxLen; omega) (by omega) (by simp; omega) ?_; intro v9 w9 hown9 hgrow9 hnil9; obtain ⟨x9, c9, rfl, _, _⟩ := owns_slice hown9)
        have ho9 : w9.ownsRow M 60 10 (.slice x8 (k + 1) c8) (k + 1) (flatQ (allK k) ++ [.int .i64 0, .int .i64 0, .int .i64 0, .int .i64 0, .int .i64 0, .int .i64 40, .int .i64 0, .int .i64 40, .int .i64 1, .int .i64 0]) := (ho8.out.alloc _).kept hgrow9 hap8.out
        have hB9 : Below M w7 w9 := (hB8'.out.alloc hM8 _).grown hgrow9 (by simp; omega) (fun r e => (owns_row hm8 r e))
        have e9 : min (k + 1) 8 = k + 1 := by omega
        have hRel : LoopN M w7 (k + 1) (.slice x9 (2 * k + 2) c9) (.slice x8 (k + 1) c8) w9 := LoopN.mk_ (by omega) rfl (by rw [e9, flatS_snoc2]; exact hown9) (by rw [allK_snoc, flatQ_snocI]; exact ho9) hB9
        clear hown9 hgrow9 hnil9 hm8 hm8' ho9 hB9
        go_wp2
        go_roundw
        case rel => exact ⟨k + 1, by go_num, hlt, hRel⟩
        case measure => simp [intOf]; omega
      · obtain rfl : k = 8 := by omega
        have hl8i : ¬ ((8 : Nat) : Int) < 8 := by omega
        have hRel : LoopN M w7 (8 + 1) (.slice x1 (2 * min 8 8) c1) (.slice x8 (8 + 1) c8) w8 := LoopN.mk_ rfl rfl hm8 (by rw [allK_snoc, flatQ_snocI]; exact ho8.out) hB8'.out
        clear hm8 hmr8
        go_wp2
        go_roundw
        case rel => exact ⟨8 + 1, by go_num, by omega, hRel⟩
        case measure => simp [intOf]
    · obtain rfl : k = 9 := by omega
      simp only [show ((9 : Nat) : Int) = 9 from rfl, show min 9 8 = 8 from rfl] at hm ⊢
      obtain ⟨_, _, ec, hcm, hc16⟩ := owns_slice hm
      obtain ⟨_, _, rfl⟩ := Value.slice.inj ec
      have hc14i : (14 : Int) ≤ (c1 : Int) := by omega
      unfold maxLen at hcm
      have hMn := Row.of_owns (B := wr.heap.size) hm (manyK_len 8).symm (Nat.le_refl _)
      have hAl := Rqs.of_owns (B := wr.heap.size) ha rfl (Nat.le_refl _)
      have hEr : Below w7.heap.size w7 wr := by rw [hM'.out]; exact hbw
      have hE4 : Below w4.heap.size w4 wr := hb7'.out.trans (hEr.mono hb7'.out.size)
      have hK4 : Hid (KnAt w q p gs gh gl gt (.slice x7 3 c7) (.slice x1 16 c1) (.slice x2 9 c2) wr) := Lib.hid ⟨hR4'.out.keep hE4 hR4'.out.inside, hV4'.out.keep hE4 hV4'.out.inside, hS4'.out.keep hE4 hS4'.out.inside, hH4'.out.keep hE4 hH4'.out.inside, hL4'.out.keep hE4 hL4'.out.inside, hT4'.out.keep hE4 hT4'.out.inside, ho7.out.on hEr, hMn, hAl, hsg4'.out.on hE4, hB4'.out.trans (hE4.mono hB4'.out.size)⟩
      clear hm ha hbw hMn hAl hEr hE4 hR4' hV4' hS4' hH4' hL4' hT4' hsg4' hB4' ho7 hb7' hTq hpl' hM' hlt hMs hiS hS0 hS1 hS2 hiQ hQ0 hQ1 hQ2
      obtain ⟨k, hk4⟩ : ∃ k, wr.heap.size = k := ⟨_, rfl⟩
      go_wp2_with fail
      refine (Places_any 16 wr).mono ?_
      rintro e w9 ⟨rfl, hw9⟩
      have hs9 : w9.heap.size = k + 1 := by rw [← hw9]; simp [hk4]
      have hb9 : Below wr.heap.size wr w9 := by rw [← hw9]; exact (Below.refl _ _).alloc (Nat.le_refl _) _
      have hnil := nil_places
      clear hw9
      go_wp2_with fail
      refine (Places_any 17 w9).mono ?_
      rintro e wa ⟨rfl, hwa⟩
      have hsa : wa.heap.size = k + 2 := by rw [← hwa]; simp [hs9]
      have hba : Below w9.heap.size w9 wa := by rw [← hwa]; exact (Below.refl _ _).alloc (Nat.le_refl _) _
      have hKa := Lib.hid ((hK4.out.on hb9).on hba)
      have hlta : Hid (q < k ∧ p < k ∧ 0 < k ∧ w.heap.size ≤ q) := Lib.hid (by have h1 := hK4.out.r.inside; have h2 := hK4.out.v.inside; have h3 := hlt4.out; omega)
      obtain ⟨wb, hwb⟩ : ∃ wb, wa.alloc (.cells #[.int .i64 0] 3) = wb := ⟨_, rfl⟩
      have hAb : At wb (k + 2) 3 #[.int .i64 0] := by rw [← hwb]; exact At.new_ _ _ _ hsa.symm
      have hsb : wb.heap.size = k + 3 := by rw [← hwb]; simp [hsa]
      have hbb : Below (k + 2) wa wb := by rw [← hwb]; exact (Below.refl _ _).alloc (by omega) _
      have hwb' := Lib.hid hwb
      clear hb9 hba hK4 hs9 hwa hwb hlt4
      go_wp2_with fail
      rw [hwb'.out]
      clear hnil
      refine (Places_any 16 wb).mono ?_
      rintro e w9 ⟨rfl, hw9⟩
      have hA9 : At w9 (k + 2) 3 #[.int .i64 0] := by rw [← hw9]; exact hAb.alloc _
      have hN9 : At w9 (k + 3) 3 #[.int .i64 16] := by rw [← hw9]; exact At.new_ _ _ _ hsb.symm
      have hs9 : w9.heap.size = k + 4 := by rw [← hw9]; simp [hsb]
      have hb9 : Below (k + 2) wa w9 := by rw [← hw9]; exact hbb.alloc (by omega) _
      have hI9 : CntI (k + 2) wa [] w9 := ⟨hA9, hN9, hb9⟩
      have hsa' := Lib.hid hsa
      have hs9' := Lib.hid hs9
      have hsb' := Lib.hid hsb
      clear hwb' hw9 hAb hbb hA9 hN9 hb9 hsa hsb hk4
      go_wp2_with fail
      try simp only [hsb'.out]
      refine (wpIn_wide (n := 3)).1 ?_
      refine rangesRound2 (gf := 47) (fst := #[]) (lb := #[.pointer (some ⟨k + 3, 0, none⟩)]) rfl (enters_of Tryd.func47 (by kernel_rfl) rfl) (encs := encP) (good := fun _ => true) (xs := pairsL 16) (fun _ => rfl)
        (CntI (k + 2) wa) (CntI.old (by omega) (by have := hsa'.out; omega)) hI9 (places_runs 16 (k + 3) _ _ (CntI (k + 2) wa) (fun _ _ h => h.num)) ?round2 ?done2 ?stop2
      case stop2 => exact fun _ _ _ h => absurd (fun _ _ => rfl) h
      case round2 =>
        rintro l2 pre x Wr ⟨rest, hx⟩ hW2 hIr -
        obtain ⟨i, j⟩ := x
        have hmem : (i, j) ∈ pairsL 16 := by rw [hx]; simp
        obtain ⟨b1, b2, b3⟩ := pairs_bd _ hmem
        have hlen : pre.length < 153 := by rw [← pairs_16, hx]; simp
        dsimp only at b1 b2 b3
        have n1 : ¬ i < 0 := by omega
        have n2 : ¬ j < i := by omega
        have n3 : ¬ 16 < j := by omega
        dsimp only [encP]
        gi_wp2
        refine ⟨World.grownBy.refl _ _, fun Vr hVs hVb hI2 => ?_⟩
        have a0 := hI2.at_.cell 0
        have af := hI2.at_.free 0
        simp at a0
        have hk4 : k + 2 < Vr.heap.size := hI2.at_.inside
        have hI2' := Lib.hid hI2
        have hHs : w9.heap.size + 1 < Vr.heap.size := by omega
        have hHs' := Lib.hid hHs
        clear hI2 hIr hVb hVs hx hW2 hmem
        obtain ⟨n, hn⟩ : ∃ n, pre.length = n := ⟨_, rfl⟩
        rw [hn] at a0 hlen
        have hf : Hid (CntI (k + 2) wa (pre ++ [(i, j)]) (Vr.setCell ⟨k + 2, 0, none⟩ (.int .i64 ((n : Int) + 1))) ∧ Held w9.heap.size Vr (Vr.setCell ⟨k + 2, 0, none⟩ (.int .i64 ((n : Int) + 1)))) := Lib.hid (by
          refine ⟨⟨?_, hI2'.out.num.far (by omega) _ _, hI2'.out.below.setCell (by simp) _⟩, Held.setCell _ (by omega) (by omega) _⟩
          have := hI2'.out.at_.put 0 (.int .i64 ((n : Int) + 1))
          rw [List.length_append, hn]
          simpa using this)
        clear hn hI2'
        gi_wp2
        exact ⟨rfl, by have h9 := hf.out; rw [hs9'.out] at h9; simpa using h9⟩
      case done2 =>
      rintro Wr hW2 hI2 - hD
      have hKr := Lib.hid (hKa.out.on (by rw [hsa'.out]; exact hI2.below))
      have hAr : At Wr (k + 2) 3 #[.int .i64 153] := by have := hI2.at_; rw [pairs_16] at this; exact this
      clear hI2 hKa hI9
      have hD1 : Hid (Wr.heap[k + 4]? = some (.deferred (some []))) := Lib.hid (by rw [← hs9'.out]; exact hD)
      have hkr : k + 4 < Wr.heap.size := by have := hs9'.out; omega
      go_wp2_with fail
      refine (Places_any 17 Wr).mono ?_
      rintro e wc ⟨rfl, hwc⟩
      obtain ⟨m, hm⟩ : ∃ m, Wr.heap.size = m := ⟨_, rfl⟩
      have hsc : wc.heap.size = m + 1 := by rw [← hwc]; simp [hm]
      have hNc : At wc m 3 #[.int .i64 17] := by rw [← hwc]; exact At.new_ _ _ _ hm.symm
      have hbc : Below Wr.heap.size Wr wc := by rw [← hwc]; exact (Below.refl _ _).alloc (Nat.le_refl _) _
      have hKc := Lib.hid (hKr.out.on hbc)
      have hAc := Lib.hid (hAr.keep hbc hAr.inside)
      have hDc := Lib.hid (marked hD1.out hbc)
      have hIc : NoI m 17 wc [] wc := ⟨hNc, Below.refl _ _⟩
      have hm' := Lib.hid hm
      have hsc' := Lib.hid hsc
      have hkm : k + 4 < m := by omega
      clear hwc hbc hNc hKr hAr hD hD1 hm hkr
      go_wp2_with fail
      try simp only [hm'.out]
      refine (wpIn_wide (n := 3)).1 ?_
      refine rangesRound2 (gf := 47) (fst := #[]) (lb := #[.pointer (some ⟨m, 0, none⟩)]) rfl (enters_of Tryd.func47 (by kernel_rfl) rfl) (encs := encP) (good := fun _ => true) (xs := pairsL 17) (fun _ => rfl)
        (NoI m 17 wc) (NoI.old (Nat.le_refl _)) hIc (places_runs 17 m _ _ (NoI m 17 wc) (fun _ _ h => h.num)) ?round3 ?done3 ?stop3
      case stop3 => exact fun _ _ _ h => absurd (fun _ _ => rfl) h
      case round3 =>
        rintro l2 pre x Wr2 ⟨rest, hx⟩
        rw [pairs_17] at hx
        simp at hx
      case done3 =>
      rintro Wb hWb hIb - hDb
      have hK0 := Lib.hid (hKc.out.on hIb.below)
      have hA0 := Lib.hid (hAc.out.keep hIb.below hAc.out.inside)
      have hM0 := Lib.hid (marked hDc.out hIb.below)
      have hN0 : Hid (Wb.heap[m + 1]? = some (.deferred (some []))) := Lib.hid (by rw [← hsc'.out]; exact hDb)
      clear hIb hDb hIc hWb hKc hAc hDc
      have hVc := hK0.out.h
      have p0 := hVc.cell 0
      have p1 := hVc.cell 1
      have p2 := hVc.cell 2
      have p3 := hVc.cell 3
      have p4 := hVc.cell 4
      simp at p0 p1 p2 p3 p4
      have hVi := hVc.inside
      clear hVc
      have hC := Detour_any vLk _ _ lW tW (by decide) lW_nums 1 0 0 Wb hK0.out.row hK0.out.rqs
      rw [knD0, knW0] at hC
      go_wp2_with fail
      refine hC.mono ?_
      clear hC p0 p1 p2 p3 p4 hVi
      rintro e y1 ⟨rfl, hb⟩
      have hK1 := Lib.hid (hK0.out.on hb)
      have hA1 := Lib.hid (hA0.out.keep hb hA0.out.inside)
      have hM1 := Lib.hid (marked hM0.out hb)
      have hN1 := Lib.hid (marked hN0.out hb)
      clear hb hK0 hA0 hM0 hN0
      have hK1' := hK1.out
      have hA1' := hA1.out
      clear hK1 hA1
      go_upto_region 26 with fail
      refine Sched.wp_region_sched 9 (fun W W' => Below W.heap.size W W') (VK [.val (.agg #[.int .i64 0, .int .i64 0, .int .i64 5, .int .i64 0, .int .i64 40]), .val (.slice x1 16 c1), .val (.slice x1 14 c1), .val (.slice x2 9 c2), .val (.tuple #[.int .i64 0, .int .i64 0]), .val (.tuple #[.int .i64 0, .int .i64 0]), .val (.int .i64 0), .val (.int .i64 0), .val (.int .i64 0)]) (fun _ _ _ => True) (by kernel_rfl) (by kernel_rfl) (by kernel_rfl) (fun h1 h2 => belowTr h1 h2) (fun h1 h2 => VK.keep h1 h2) (Below.refl _ _).drew (fun _ => trivial) (Sched.StepsA.steps (by kernel_rfl) ?hS26) ?hQ26
      case hS26 =>
       simp only [List.take_succ_cons, List.take_zero]
       refine ⟨?_, ?_, ?_, ?_, ?_, ?_, ?_, ?_, ?_, trivial⟩
       · intro ys done W aa hE hn hF hD hZ hG hO
         replace hE : Below y1.heap.size y1 W := hE
         have o1 := hO 1 (by kernel_rfl)
         replace o1 : aa.tmps[1]? = some (.pointer (some ⟨p, 0, none⟩)) := o1
         have hAt := hK1'.v.keep hE hK1'.v.inside
         have p0 := hAt.cell 0
         have p1 := hAt.cell 1
         have p2 := hAt.cell 2
         have p3 := hAt.cell 3
         have p4 := hAt.cell 4
         simp at p0 p1 p2 p3 p4
         clear hAt
         go_wp2_with fail
         first | exact ⟨_, rfl, Below.refl _ _, VK.val rfl rfl, trivial⟩ | exact ⟨_, rfl, Below.refl _ _, VK.val rfl rfl⟩
       · intro ys done W aa hE hn hF hD hZ hG hO
         replace hE : Below y1.heap.size y1 W := hE
         have o7 := hO 7 (by kernel_rfl)
         replace o7 : aa.tmps[7]? = some (.slice x1 16 c1) := o7
         go_wp2_with fail
         first | exact ⟨_, rfl, Below.refl _ _, VK.val rfl rfl, trivial⟩ | exact ⟨_, rfl, Below.refl _ _, VK.val rfl rfl⟩
       · intro ys done W aa hE hn hF hD hZ hG hO
         replace hE : Below y1.heap.size y1 W := hE
         have v1 := (hF 1 (by decide) (hD 1 (by kernel_rfl))).eq rfl
         have g1 := hG 1 85 rfl (Nat.le_of_ble_eq_true rfl)
         rw [v1] at g1
         go_wp2_with fail
         first | exact ⟨_, rfl, Below.refl _ _, VK.val rfl rfl, trivial⟩ | exact ⟨_, rfl, Below.refl _ _, VK.val rfl rfl⟩
       · intro ys done W aa hE hn hF hD hZ hG hO
         replace hE : Below y1.heap.size y1 W := hE
         have o8 := hO 8 (by kernel_rfl)
         replace o8 : aa.tmps[8]? = some (.slice x2 9 c2) := o8
         go_wp2_with fail
         first | exact ⟨_, rfl, Below.refl _ _, VK.val rfl rfl, trivial⟩ | exact ⟨_, rfl, Below.refl _ _, VK.val rfl rfl⟩
       · intro ys done W aa hE hn hF hD hZ hG hO
         replace hE : Below y1.heap.size y1 W := hE
         have v0 := (hF 0 (by decide) (hD 0 (by kernel_rfl))).eq rfl
         have g0 := hG 0 84 rfl (Nat.le_of_ble_eq_true rfl)
         rw [v0] at g0
         have v2 := (hF 2 (by decide) (hD 2 (by kernel_rfl))).eq rfl
         have g2 := hG 2 86 rfl (Nat.le_of_ble_eq_true rfl)
         rw [v2] at g2
         have v3 := (hF 3 (by decide) (hD 3 (by kernel_rfl))).eq rfl
         have g3 := hG 3 87 rfl (Nat.le_of_ble_eq_true rfl)
         rw [v3] at g3
         go_wp2_with fail
         refine (Detour_any vW _ _ ((manyK 8).take 14) (allK 9) (by decide) many14_nums 8 3 9 W (Row.cutTo (N := 16) (k := 14) (hK1'.on hE).m (manyK_len 8) (by decide)) (hK1'.on hE).a).mono ?_
         rintro e W' ⟨rfl, hb'⟩
         rw [knD1, knW1]
         replace hb' := Lib.hid hb'
         go_wp2_with fail
         first | exact ⟨_, rfl, hb'.out, VK.val rfl rfl, trivial⟩ | exact ⟨_, rfl, hb'.out, VK.val rfl rfl⟩
       · intro ys done W aa hE hn hF hD hZ hG hO
         replace hE : Below y1.heap.size y1 W := hE
         have v4 := (hF 4 (by decide) (hD 4 (by kernel_rfl))).eq rfl
         have g4 := hG 4 88 rfl (Nat.le_of_ble_eq_true rfl)
         rw [v4] at g4
         go_wp2_with fail
         first | exact ⟨_, rfl, Below.refl _ _, VK.val rfl rfl, trivial⟩ | exact ⟨_, rfl, Below.refl _ _, VK.val rfl rfl⟩
       · intro ys done W aa hE hn hF hD hZ hG hO
         replace hE : Below y1.heap.size y1 W := hE
         have v5 := (hF 5 (by decide) (hD 5 (by kernel_rfl))).eq rfl
         have g5 := hG 5 83 rfl (Nat.le_of_ble_eq_true rfl)
         rw [v5] at g5
         go_wp2_with fail
         first | exact ⟨_, rfl, Below.refl _ _, VK.val rfl rfl, trivial⟩ | exact ⟨_, rfl, Below.refl _ _, VK.val rfl rfl⟩
       · intro ys done W aa hE hn hF hD hZ hG hO
         replace hE : Below y1.heap.size y1 W := hE
         have v5 := (hF 5 (by decide) (hD 5 (by kernel_rfl))).eq rfl
         have g5 := hG 5 83 rfl (Nat.le_of_ble_eq_true rfl)
         rw [v5] at g5
         go_wp2_with fail
         first | exact ⟨_, rfl, Below.refl _ _, VK.val rfl rfl, trivial⟩ | exact ⟨_, rfl, Below.refl _ _, VK.val rfl rfl⟩
       · intro ys done W aa hE hn hF hD hZ hG hO
         replace hE : Below y1.heap.size y1 W := hE
         have v6 := (hF 6 (by decide) (hD 6 (by kernel_rfl))).eq rfl
         have g6 := hG 6 89 rfl (Nat.le_of_ble_eq_true rfl)
         rw [v6] at g6
         go_wp2_with fail
         first | exact ⟨_, rfl, Below.refl _ _, VK.val rfl rfl, trivial⟩ | exact ⟨_, rfl, Below.refl _ _, VK.val rfl rfl⟩
      case hQ26 =>
       intro ys y2 hE hF _
       replace hE : Below y1.heap.size y1 y2 := hE
       have v7 := (hF 7 (by decide)).eq rfl
       have v8 := (hF 8 (by decide)).eq rfl
       have hb := hE
       simp only [List.take_succ_cons, List.take_zero, List.drop_succ_cons, List.drop_zero, Sched.fill, v7, v8]
       clear hF v7 v8
       go_simp
       have hK2 := hK1'.on hb
       have hA2 := hA1'.keep hb hA1'.inside
       have hM2 := Lib.hid (marked hM1.out hb)
       have hN2 := Lib.hid (marked hN1.out hb)
       clear hb hK1' hA1' hM1 hN1 hE
       go_upto_region 27 with fail
       refine Sched.wp_region_sched 82 (fun W W' => Below W.heap.size W W') (VK [.val (.bool true), .val (.bool true), .val (.bool true), .val (.bool true), .val (.int .i64 153), .val (.bool true), .val (.bool true), .val (.bool true), .val (.int .i64 0), .val (.bool true), .val (.bool true), .val (.bool true), .val (.int .i64 9), .val (.bool true), .val (.bool true), .val (.bool true), .val (.int .i64 0), .val (.bool true), .val (.bool true), .val (.bool true), .val (.int .i64 0), .val (.bool true), .val (.bool true), .val (.bool true), .val (.agg #[.int .i64 0, .int .i64 0, .int .i64 0, .int .i64 0, .int .i64 40]), .val (.slice (some ⟨gl, 0, none⟩) 2 2), .val (.slice (some ⟨gt, 0, none⟩) 2 2), .val (.agg #[.int .i64 0, .int .i64 0, .int .i64 0]), .val (.bool true), .val (.bool true), .val (.bool true), .val (.agg #[.int .i64 0, .int .i64 0, .int .i64 0, .int .i64 0, .int .i64 40]), .val (.slice (some ⟨gl, 0, none⟩) 2 2), .val (.slice (some ⟨gt, 0, none⟩) 2 2), .val (.agg #[.int .i64 1, .int .i64 9, .int .i64 9]), .val (.bool true), .val (.bool true), .val (.bool true), .val (.agg #[.int .i64 0, .int .i64 0, .int .i64 5, .int .i64 0, .int .i64 40]), .val (.slice (some ⟨gl, 0, none⟩) 2 2), .val (.slice x7 3 c7), .val (.agg #[.int .i64 1, .int .i64 0, .int .i64 0]), .val (.bool true), .val (.bool true), .val (.bool true), .val (.agg #[.int .i64 0, .int .i64 0, .int .i64 5, .int .i64 0, .int .i64 40]), .val (.slice (some ⟨gl, 0, none⟩) 2 2), .val (.slice (some ⟨gl, 0, none⟩) 1 2), .val (.slice (some ⟨gt, 0, none⟩) 2 2), .val (.agg #[.int .i64 1, .int .i64 0, .int .i64 0]), .val (.bool true), .val (.bool true), .val (.bool true), .val (.agg #[.int .i64 0, .int .i64 0, .int .i64 5, .int .i64 0, .int .i64 19]), .val (.slice (some ⟨gl, 0, none⟩) 2 2), .val (.slice (some ⟨gt, 0, none⟩) 2 2), .val (.agg #[.int .i64 1, .int .i64 0, .int .i64 0]), .val (.bool true), .val (.bool true), .val (.bool true), .val (.agg #[.int .i64 0, .int .i64 0, .int .i64 5, .int .i64 0, .int .i64 40]), .val (.slice x1 16 c1), .val (.slice x2 9 c2), .val (.agg #[.int .i64 8, .int .i64 40, .int .i64 40]), .val (.bool true), .val (.bool true), .val (.bool true), .val (.agg #[.int .i64 0, .int .i64 0, .int .i64 5, .int .i64 0, .int .i64 40]), .val (.slice x1 16 c1), .val (.slice x1 14 c1), .val (.slice x2 9 c2), .val (.agg #[.int .i64 8, .int .i64 3, .int .i64 9]), .val (.bool true), .val (.bool true), .val (.bool true), .val (.agg #[.int .i64 0, .int .i64 0, .int .i64 5, .int .i64 0, .int .i64 40]), .val (.slice x1 16 c1), .val (.slice x1 14 c1), .val (.slice x2 9 c2), .val (.agg #[.int .i64 8, .int .i64 3, .int .i64 15]), .val (.bool true), .val (.bool true)]) (fun _ _ _ => True) (by kernel_rfl) (by kernel_rfl) (by kernel_rfl) (fun h1 h2 => belowTr h1 h2) (fun h1 h2 => VK.keep h1 h2) (Below.refl _ _).drew (fun _ => trivial) (Sched.StepsA.steps (by kernel_rfl) ?hS27) ?hQ27
       case hS27 =>
        simp only [List.take_succ_cons, List.take_zero]
        refine ⟨?_, ?_, ?_, ?_, ?_, ?_, ?_, ?_, ?_, ?_, ?_, ?_, ?_, ?_, ?_, ?_, ?_, ?_, ?_, ?_, ?_, ?_, ?_, ?_, ?_, ?_, ?_, ?_, ?_, ?_, ?_, ?_, ?_, ?_, ?_, ?_, ?_, ?_, ?_, ?_, ?_, ?_, ?_, ?_, ?_, ?_, ?_, ?_, ?_, ?_, ?_, ?_, ?_, ?_, ?_, ?_, ?_, ?_, ?_, ?_, ?_, ?_, ?_, ?_, ?_, ?_, ?_, ?_, ?_, ?_, ?_, ?_, ?_, ?_, ?_, ?_, ?_, ?_, ?_, ?_, ?_, ?_, trivial⟩
        · intro ys done W aa hE hn hF hD hZ hG hO
          replace hE : Below y2.heap.size y2 W := hE
          go_wp2_with fail
          first | exact ⟨_, rfl, Below.refl _ _, VK.val rfl rfl, trivial⟩ | exact ⟨_, rfl, Below.refl _ _, VK.val rfl rfl⟩
        · intro ys done W aa hE hn hF hD hZ hG hO
          replace hE : Below y2.heap.size y2 W := hE
          have v0 := (hF 0 (by decide) (hD 0 (by kernel_rfl))).eq rfl
          have g0 := hG 0 91 rfl (Nat.le_of_ble_eq_true rfl)
          rw [v0] at g0
          refine BigFrame.wpList_want (by simp [Region.wanted, yielded, g0]) ?_
          intro K hK
          go_wp2_with fail
          refine (works_any W (hK2.on hE).sg).mono ?_
          rintro e W' ⟨rfl, hb'⟩
          replace hb' := Lib.hid hb'
          go_wp2_with fail
          first | exact ⟨_, rfl, hb'.out, VK.val rfl rfl, trivial⟩ | exact ⟨_, rfl, hb'.out, VK.val rfl rfl⟩
        · intro ys done W aa hE hn hF hD hZ hG hO
          replace hE : Below y2.heap.size y2 W := hE
          have v0 := (hF 0 (by decide) (hD 0 (by kernel_rfl))).eq rfl
          have g0 := hG 0 91 rfl (Nat.le_of_ble_eq_true rfl)
          rw [v0] at g0
          have v1 := (hF 1 (by decide) (hD 1 (by kernel_rfl))).eq rfl
          have g1 := hG 1 92 rfl (Nat.le_of_ble_eq_true rfl)
          rw [v1] at g1
          go_wp2_with fail
          first | exact ⟨_, rfl, Below.refl _ _, VK.val rfl rfl, trivial⟩ | exact ⟨_, rfl, Below.refl _ _, VK.val rfl rfl⟩
        · intro ys done W aa hE hn hF hD hZ hG hO
          replace hE : Below y2.heap.size y2 W := hE
          have v2 := (hF 2 (by decide) (hD 2 (by kernel_rfl))).eq rfl
          have g2 := hG 2 93 rfl (Nat.le_of_ble_eq_true rfl)
          rw [v2] at g2
          go_wp2_with fail
          first | exact ⟨_, rfl, Below.refl _ _, VK.val rfl rfl, trivial⟩ | exact ⟨_, rfl, Below.refl _ _, VK.val rfl rfl⟩
        · intro ys done W aa hE hn hF hD hZ hG hO
          replace hE : Below y2.heap.size y2 W := hE
          have v3 := (hF 3 (by decide) (hD 3 (by kernel_rfl))).eq rfl
          have g3 := hG 3 94 rfl (Nat.le_of_ble_eq_true rfl)
          rw [v3] at g3
          refine BigFrame.wpList_want (by simp [Region.wanted, yielded, g3]) ?_
          intro K hK
          have o10 := hO 10 (by kernel_rfl)
          replace o10 : aa.tmps[10]? = some (.pointer (some ⟨k + 2, 0, none⟩)) := o10
          have hAt := hA2.keep hE hA2.inside
          have p0 := hAt.cell 0
          simp at p0
          clear hAt
          go_wp2_with fail
          first | exact ⟨_, rfl, Below.refl _ _, VK.val rfl rfl, trivial⟩ | exact ⟨_, rfl, Below.refl _ _, VK.val rfl rfl⟩
        · intro ys done W aa hE hn hF hD hZ hG hO
          replace hE : Below y2.heap.size y2 W := hE
          have v3 := (hF 3 (by decide) (hD 3 (by kernel_rfl))).eq rfl
          have g3 := hG 3 94 rfl (Nat.le_of_ble_eq_true rfl)
          rw [v3] at g3
          refine BigFrame.wpList_want (by simp [Region.wanted, yielded, g3]) ?_
          intro K hK
          have v4 := (hF 4 (by decide) (hD 4 (by kernel_rfl))).eq rfl
          have g4 := hG 4 95 rfl (Nat.le_of_ble_eq_true rfl)
          rw [v4] at g4
          go_wp2_with fail
          first | exact ⟨_, rfl, Below.refl _ _, VK.val rfl rfl, trivial⟩ | exact ⟨_, rfl, Below.refl _ _, VK.val rfl rfl⟩
        · intro ys done W aa hE hn hF hD hZ hG hO
          replace hE : Below y2.heap.size y2 W := hE
          have v3 := (hF 3 (by decide) (hD 3 (by kernel_rfl))).eq rfl
          have g3 := hG 3 94 rfl (Nat.le_of_ble_eq_true rfl)
          rw [v3] at g3
          have v5 := (hF 5 (by decide) (hD 5 (by kernel_rfl))).eq rfl
          have g5 := hG 5 96 rfl (Nat.le_of_ble_eq_true rfl)
          rw [v5] at g5
          go_wp2_with fail
          first | exact ⟨_, rfl, Below.refl _ _, VK.val rfl rfl, trivial⟩ | exact ⟨_, rfl, Below.refl _ _, VK.val rfl rfl⟩
        · intro ys done W aa hE hn hF hD hZ hG hO
          replace hE : Below y2.heap.size y2 W := hE
          have v6 := (hF 6 (by decide) (hD 6 (by kernel_rfl))).eq rfl
          have g6 := hG 6 97 rfl (Nat.le_of_ble_eq_true rfl)
          rw [v6] at g6
          go_wp2_with fail
          first | exact ⟨_, rfl, Below.refl _ _, VK.val rfl rfl, trivial⟩ | exact ⟨_, rfl, Below.refl _ _, VK.val rfl rfl⟩
        · intro ys done W aa hE hn hF hD hZ hG hO
          replace hE : Below y2.heap.size y2 W := hE
          have v7 := (hF 7 (by decide) (hD 7 (by kernel_rfl))).eq rfl
          have g7 := hG 7 98 rfl (Nat.le_of_ble_eq_true rfl)
          rw [v7] at g7
          refine BigFrame.wpList_want (by simp [Region.wanted, yielded, g7]) ?_
          intro K hK
          have o13 := hO 13 (by kernel_rfl)
          replace o13 : aa.tmps[13]? = some (.int .i64 0) := o13
          go_wp2_with fail
          first | exact ⟨_, rfl, Below.refl _ _, VK.val rfl rfl, trivial⟩ | exact ⟨_, rfl, Below.refl _ _, VK.val rfl rfl⟩
        · intro ys done W aa hE hn hF hD hZ hG hO
          replace hE : Below y2.heap.size y2 W := hE
          have v7 := (hF 7 (by decide) (hD 7 (by kernel_rfl))).eq rfl
          have g7 := hG 7 98 rfl (Nat.le_of_ble_eq_true rfl)
          rw [v7] at g7
          refine BigFrame.wpList_want (by simp [Region.wanted, yielded, g7]) ?_
          intro K hK
          have v8 := (hF 8 (by decide) (hD 8 (by kernel_rfl))).eq rfl
          have g8 := hG 8 99 rfl (Nat.le_of_ble_eq_true rfl)
          rw [v8] at g8
          go_wp2_with fail
          first | exact ⟨_, rfl, Below.refl _ _, VK.val rfl rfl, trivial⟩ | exact ⟨_, rfl, Below.refl _ _, VK.val rfl rfl⟩
        · intro ys done W aa hE hn hF hD hZ hG hO
          replace hE : Below y2.heap.size y2 W := hE
          have v7 := (hF 7 (by decide) (hD 7 (by kernel_rfl))).eq rfl
          have g7 := hG 7 98 rfl (Nat.le_of_ble_eq_true rfl)
          rw [v7] at g7
          have v9 := (hF 9 (by decide) (hD 9 (by kernel_rfl))).eq rfl
          have g9 := hG 9 100 rfl (Nat.le_of_ble_eq_true rfl)
          rw [v9] at g9
          go_wp2_with fail
          first | exact ⟨_, rfl, Below.refl _ _, VK.val rfl rfl, trivial⟩ | exact ⟨_, rfl, Below.refl _ _, VK.val rfl rfl⟩
        · intro ys done W aa hE hn hF hD hZ hG hO
          replace hE : Below y2.heap.size y2 W := hE
          have v10 := (hF 10 (by decide) (hD 10 (by kernel_rfl))).eq rfl
          have g10 := hG 10 101 rfl (Nat.le_of_ble_eq_true rfl)
          rw [v10] at g10
          go_wp2_with fail
          first | exact ⟨_, rfl, Below.refl _ _, VK.val rfl rfl, trivial⟩ | exact ⟨_, rfl, Below.refl _ _, VK.val rfl rfl⟩
        · intro ys done W aa hE hn hF hD hZ hG hO
          replace hE : Below y2.heap.size y2 W := hE
          have v11 := (hF 11 (by decide) (hD 11 (by kernel_rfl))).eq rfl
          have g11 := hG 11 102 rfl (Nat.le_of_ble_eq_true rfl)
          rw [v11] at g11
          refine BigFrame.wpList_want (by simp [Region.wanted, yielded, g11]) ?_
          intro K hK
          have o14 := hO 14 (by kernel_rfl)
          replace o14 : aa.tmps[14]? = some (.int .i64 9) := o14
          go_wp2_with fail
          first | exact ⟨_, rfl, Below.refl _ _, VK.val rfl rfl, trivial⟩ | exact ⟨_, rfl, Below.refl _ _, VK.val rfl rfl⟩
        · intro ys done W aa hE hn hF hD hZ hG hO
          replace hE : Below y2.heap.size y2 W := hE
          have v11 := (hF 11 (by decide) (hD 11 (by kernel_rfl))).eq rfl
          have g11 := hG 11 102 rfl (Nat.le_of_ble_eq_true rfl)
          rw [v11] at g11
          refine BigFrame.wpList_want (by simp [Region.wanted, yielded, g11]) ?_
          intro K hK
          have v12 := (hF 12 (by decide) (hD 12 (by kernel_rfl))).eq rfl
          have g12 := hG 12 103 rfl (Nat.le_of_ble_eq_true rfl)
          rw [v12] at g12
          go_wp2_with fail
          first | exact ⟨_, rfl, Below.refl _ _, VK.val rfl rfl, trivial⟩ | exact ⟨_, rfl, Below.refl _ _, VK.val rfl rfl⟩
        · intro ys done W aa hE hn hF hD hZ hG hO
          replace hE : Below y2.heap.size y2 W := hE
          have v11 := (hF 11 (by decide) (hD 11 (by kernel_rfl))).eq rfl
          have g11 := hG 11 102 rfl (Nat.le_of_ble_eq_true rfl)
          rw [v11] at g11
          have v13 := (hF 13 (by decide) (hD 13 (by kernel_rfl))).eq rfl
          have g13 := hG 13 104 rfl (Nat.le_of_ble_eq_true rfl)
          rw [v13] at g13
          go_wp2_with fail
          first | exact ⟨_, rfl, Below.refl _ _, VK.val rfl rfl, trivial⟩ | exact ⟨_, rfl, Below.refl _ _, VK.val rfl rfl⟩
        · intro ys done W aa hE hn hF hD hZ hG hO
          replace hE : Below y2.heap.size y2 W := hE
          have v14 := (hF 14 (by decide) (hD 14 (by kernel_rfl))).eq rfl
          have g14 := hG 14 105 rfl (Nat.le_of_ble_eq_true rfl)
          rw [v14] at g14
          go_wp2_with fail
          first | exact ⟨_, rfl, Below.refl _ _, VK.val rfl rfl, trivial⟩ | exact ⟨_, rfl, Below.refl _ _, VK.val rfl rfl⟩
        · intro ys done W aa hE hn hF hD hZ hG hO
          replace hE : Below y2.heap.size y2 W := hE
          have v15 := (hF 15 (by decide) (hD 15 (by kernel_rfl))).eq rfl
          have g15 := hG 15 106 rfl (Nat.le_of_ble_eq_true rfl)
          rw [v15] at g15
          refine BigFrame.wpList_want (by simp [Region.wanted, yielded, g15]) ?_
          intro K hK
          have o15 := hO 15 (by kernel_rfl)
          replace o15 : aa.tmps[15]? = some (.int .i64 0) := o15
          go_wp2_with fail
          first | exact ⟨_, rfl, Below.refl _ _, VK.val rfl rfl, trivial⟩ | exact ⟨_, rfl, Below.refl _ _, VK.val rfl rfl⟩
        · intro ys done W aa hE hn hF hD hZ hG hO
          replace hE : Below y2.heap.size y2 W := hE
          have v15 := (hF 15 (by decide) (hD 15 (by kernel_rfl))).eq rfl
          have g15 := hG 15 106 rfl (Nat.le_of_ble_eq_true rfl)
          rw [v15] at g15
          refine BigFrame.wpList_want (by simp [Region.wanted, yielded, g15]) ?_
          intro K hK
          have v16 := (hF 16 (by decide) (hD 16 (by kernel_rfl))).eq rfl
          have g16 := hG 16 107 rfl (Nat.le_of_ble_eq_true rfl)
          rw [v16] at g16
          go_wp2_with fail
          first | exact ⟨_, rfl, Below.refl _ _, VK.val rfl rfl, trivial⟩ | exact ⟨_, rfl, Below.refl _ _, VK.val rfl rfl⟩
        · intro ys done W aa hE hn hF hD hZ hG hO
          replace hE : Below y2.heap.size y2 W := hE
          have v15 := (hF 15 (by decide) (hD 15 (by kernel_rfl))).eq rfl
          have g15 := hG 15 106 rfl (Nat.le_of_ble_eq_true rfl)
          rw [v15] at g15
          have v17 := (hF 17 (by decide) (hD 17 (by kernel_rfl))).eq rfl
          have g17 := hG 17 108 rfl (Nat.le_of_ble_eq_true rfl)
          rw [v17] at g17
          go_wp2_with fail
          first | exact ⟨_, rfl, Below.refl _ _, VK.val rfl rfl, trivial⟩ | exact ⟨_, rfl, Below.refl _ _, VK.val rfl rfl⟩
        · intro ys done W aa hE hn hF hD hZ hG hO
          replace hE : Below y2.heap.size y2 W := hE
          have v18 := (hF 18 (by decide) (hD 18 (by kernel_rfl))).eq rfl
          have g18 := hG 18 109 rfl (Nat.le_of_ble_eq_true rfl)
          rw [v18] at g18
          go_wp2_with fail
          first | exact ⟨_, rfl, Below.refl _ _, VK.val rfl rfl, trivial⟩ | exact ⟨_, rfl, Below.refl _ _, VK.val rfl rfl⟩
        · intro ys done W aa hE hn hF hD hZ hG hO
          replace hE : Below y2.heap.size y2 W := hE
          have v19 := (hF 19 (by decide) (hD 19 (by kernel_rfl))).eq rfl
          have g19 := hG 19 110 rfl (Nat.le_of_ble_eq_true rfl)
          rw [v19] at g19
          refine BigFrame.wpList_want (by simp [Region.wanted, yielded, g19]) ?_
          intro K hK
          have o16 := hO 16 (by kernel_rfl)
          replace o16 : aa.tmps[16]? = some (.int .i64 0) := o16
          go_wp2_with fail
          first | exact ⟨_, rfl, Below.refl _ _, VK.val rfl rfl, trivial⟩ | exact ⟨_, rfl, Below.refl _ _, VK.val rfl rfl⟩
        · intro ys done W aa hE hn hF hD hZ hG hO
          replace hE : Below y2.heap.size y2 W := hE
          have v19 := (hF 19 (by decide) (hD 19 (by kernel_rfl))).eq rfl
          have g19 := hG 19 110 rfl (Nat.le_of_ble_eq_true rfl)
          rw [v19] at g19
          refine BigFrame.wpList_want (by simp [Region.wanted, yielded, g19]) ?_
          intro K hK
          have v20 := (hF 20 (by decide) (hD 20 (by kernel_rfl))).eq rfl
          have g20 := hG 20 111 rfl (Nat.le_of_ble_eq_true rfl)
          rw [v20] at g20
          go_wp2_with fail
          first | exact ⟨_, rfl, Below.refl _ _, VK.val rfl rfl, trivial⟩ | exact ⟨_, rfl, Below.refl _ _, VK.val rfl rfl⟩
        · intro ys done W aa hE hn hF hD hZ hG hO
          replace hE : Below y2.heap.size y2 W := hE
          have v19 := (hF 19 (by decide) (hD 19 (by kernel_rfl))).eq rfl
          have g19 := hG 19 110 rfl (Nat.le_of_ble_eq_true rfl)
          rw [v19] at g19
          have v21 := (hF 21 (by decide) (hD 21 (by kernel_rfl))).eq rfl
          have g21 := hG 21 112 rfl (Nat.le_of_ble_eq_true rfl)
          rw [v21] at g21
          go_wp2_with fail
          first | exact ⟨_, rfl, Below.refl _ _, VK.val rfl rfl, trivial⟩ | exact ⟨_, rfl, Below.refl _ _, VK.val rfl rfl⟩
        · intro ys done W aa hE hn hF hD hZ hG hO
          replace hE : Below y2.heap.size y2 W := hE
          have v22 := (hF 22 (by decide) (hD 22 (by kernel_rfl))).eq rfl
          have g22 := hG 22 113 rfl (Nat.le_of_ble_eq_true rfl)
          rw [v22] at g22
          go_wp2_with fail
          first | exact ⟨_, rfl, Below.refl _ _, VK.val rfl rfl, trivial⟩ | exact ⟨_, rfl, Below.refl _ _, VK.val rfl rfl⟩
        · intro ys done W aa hE hn hF hD hZ hG hO
          replace hE : Below y2.heap.size y2 W := hE
          have v23 := (hF 23 (by decide) (hD 23 (by kernel_rfl))).eq rfl
          have g23 := hG 23 114 rfl (Nat.le_of_ble_eq_true rfl)
          rw [v23] at g23
          refine BigFrame.wpList_want (by simp [Region.wanted, yielded, g23]) ?_
          intro K hK
          have o4 := hO 4 (by kernel_rfl)
          replace o4 : aa.tmps[4]? = some (.pointer (some ⟨gs, 0, none⟩)) := o4
          have hAt := hK2.s.keep hE hK2.s.inside
          have p0 := hAt.cell 0
          have p1 := hAt.cell 1
          have p2 := hAt.cell 2
          have p3 := hAt.cell 3
          have p4 := hAt.cell 4
          simp at p0 p1 p2 p3 p4
          clear hAt
          go_wp2_with fail
          first | exact ⟨_, rfl, Below.refl _ _, VK.val rfl rfl, trivial⟩ | exact ⟨_, rfl, Below.refl _ _, VK.val rfl rfl⟩
        · intro ys done W aa hE hn hF hD hZ hG hO
          replace hE : Below y2.heap.size y2 W := hE
          have v23 := (hF 23 (by decide) (hD 23 (by kernel_rfl))).eq rfl
          have g23 := hG 23 114 rfl (Nat.le_of_ble_eq_true rfl)
          rw [v23] at g23
          refine BigFrame.wpList_want (by simp [Region.wanted, yielded, g23]) ?_
          intro K hK
          have o2 := hO 2 (by kernel_rfl)
          replace o2 : aa.tmps[2]? = some (.slice (some ⟨gl, 0, none⟩) 2 2) := o2
          go_wp2_with fail
          first | exact ⟨_, rfl, Below.refl _ _, VK.val rfl rfl, trivial⟩ | exact ⟨_, rfl, Below.refl _ _, VK.val rfl rfl⟩
        · intro ys done W aa hE hn hF hD hZ hG hO
          replace hE : Below y2.heap.size y2 W := hE
          have v23 := (hF 23 (by decide) (hD 23 (by kernel_rfl))).eq rfl
          have g23 := hG 23 114 rfl (Nat.le_of_ble_eq_true rfl)
          rw [v23] at g23
          refine BigFrame.wpList_want (by simp [Region.wanted, yielded, g23]) ?_
          intro K hK
          have o3 := hO 3 (by kernel_rfl)
          replace o3 : aa.tmps[3]? = some (.slice (some ⟨gt, 0, none⟩) 2 2) := o3
          go_wp2_with fail
          first | exact ⟨_, rfl, Below.refl _ _, VK.val rfl rfl, trivial⟩ | exact ⟨_, rfl, Below.refl _ _, VK.val rfl rfl⟩
        · intro ys done W aa hE hn hF hD hZ hG hO
          replace hE : Below y2.heap.size y2 W := hE
          have v23 := (hF 23 (by decide) (hD 23 (by kernel_rfl))).eq rfl
          have g23 := hG 23 114 rfl (Nat.le_of_ble_eq_true rfl)
          rw [v23] at g23
          refine BigFrame.wpList_want (by simp [Region.wanted, yielded, g23]) ?_
          intro K hK
          go_wp2_with fail
          first | exact ⟨_, rfl, Below.refl _ _, VK.val rfl rfl, trivial⟩ | exact ⟨_, rfl, Below.refl _ _, VK.val rfl rfl⟩
        · intro ys done W aa hE hn hF hD hZ hG hO
          replace hE : Below y2.heap.size y2 W := hE
          have v23 := (hF 23 (by decide) (hD 23 (by kernel_rfl))).eq rfl
          have g23 := hG 23 114 rfl (Nat.le_of_ble_eq_true rfl)
          rw [v23] at g23
          refine BigFrame.wpList_want (by simp [Region.wanted, yielded, g23]) ?_
          intro K hK
          have v24 := (hF 24 (by decide) (hD 24 (by kernel_rfl))).eq rfl
          have g24 := hG 24 115 rfl (Nat.le_of_ble_eq_true rfl)
          rw [v24] at g24
          have v25 := (hF 25 (by decide) (hD 25 (by kernel_rfl))).eq rfl
          have g25 := hG 25 116 rfl (Nat.le_of_ble_eq_true rfl)
          rw [v25] at g25
          have v26 := (hF 26 (by decide) (hD 26 (by kernel_rfl))).eq rfl
          have g26 := hG 26 117 rfl (Nat.le_of_ble_eq_true rfl)
          rw [v26] at g26
          have v27 := (hF 27 (by decide) (hD 27 (by kernel_rfl))).eq rfl
          have g27 := hG 27 118 rfl (Nat.le_of_ble_eq_true rfl)
          rw [v27] at g27
          go_wp2_with fail
          refine (not_yes vBk _ _ lW tW (by decide) lW_nums 0 0 0 8 knV0 knE0 W (hK2.on hE).sg (hK2.on hE).row (hK2.on hE).rqs).mono ?_
          rintro e W' ⟨rfl, hb'⟩
          replace hb' := Lib.hid hb'
          go_wp2_with fail
          first | exact ⟨_, rfl, hb'.out, VK.val rfl rfl, trivial⟩ | exact ⟨_, rfl, hb'.out, VK.val rfl rfl⟩
        · intro ys done W aa hE hn hF hD hZ hG hO
          replace hE : Below y2.heap.size y2 W := hE
          have v23 := (hF 23 (by decide) (hD 23 (by kernel_rfl))).eq rfl
          have g23 := hG 23 114 rfl (Nat.le_of_ble_eq_true rfl)
          rw [v23] at g23
          have v28 := (hF 28 (by decide) (hD 28 (by kernel_rfl))).eq rfl
          have g28 := hG 28 119 rfl (Nat.le_of_ble_eq_true rfl)
          rw [v28] at g28
          go_wp2_with fail
          first | exact ⟨_, rfl, Below.refl _ _, VK.val rfl rfl, trivial⟩ | exact ⟨_, rfl, Below.refl _ _, VK.val rfl rfl⟩
        · intro ys done W aa hE hn hF hD hZ hG hO
          replace hE : Below y2.heap.size y2 W := hE
          have v29 := (hF 29 (by decide) (hD 29 (by kernel_rfl))).eq rfl
          have g29 := hG 29 120 rfl (Nat.le_of_ble_eq_true rfl)
          rw [v29] at g29
          go_wp2_with fail
          first | exact ⟨_, rfl, Below.refl _ _, VK.val rfl rfl, trivial⟩ | exact ⟨_, rfl, Below.refl _ _, VK.val rfl rfl⟩
        · intro ys done W aa hE hn hF hD hZ hG hO
          replace hE : Below y2.heap.size y2 W := hE
          have v30 := (hF 30 (by decide) (hD 30 (by kernel_rfl))).eq rfl
          have g30 := hG 30 121 rfl (Nat.le_of_ble_eq_true rfl)
          rw [v30] at g30
          refine BigFrame.wpList_want (by simp [Region.wanted, yielded, g30]) ?_
          intro K hK
          have o4 := hO 4 (by kernel_rfl)
          replace o4 : aa.tmps[4]? = some (.pointer (some ⟨gs, 0, none⟩)) := o4
          have hAt := hK2.s.keep hE hK2.s.inside
          have p0 := hAt.cell 0
          have p1 := hAt.cell 1
          have p2 := hAt.cell 2
          have p3 := hAt.cell 3
          have p4 := hAt.cell 4
          simp at p0 p1 p2 p3 p4
          clear hAt
          go_wp2_with fail
          first | exact ⟨_, rfl, Below.refl _ _, VK.val rfl rfl, trivial⟩ | exact ⟨_, rfl, Below.refl _ _, VK.val rfl rfl⟩
        · intro ys done W aa hE hn hF hD hZ hG hO
          replace hE : Below y2.heap.size y2 W := hE
          have v30 := (hF 30 (by decide) (hD 30 (by kernel_rfl))).eq rfl
          have g30 := hG 30 121 rfl (Nat.le_of_ble_eq_true rfl)
          rw [v30] at g30
          refine BigFrame.wpList_want (by simp [Region.wanted, yielded, g30]) ?_
          intro K hK
          have o2 := hO 2 (by kernel_rfl)
          replace o2 : aa.tmps[2]? = some (.slice (some ⟨gl, 0, none⟩) 2 2) := o2
          go_wp2_with fail
          first | exact ⟨_, rfl, Below.refl _ _, VK.val rfl rfl, trivial⟩ | exact ⟨_, rfl, Below.refl _ _, VK.val rfl rfl⟩
        · intro ys done W aa hE hn hF hD hZ hG hO
          replace hE : Below y2.heap.size y2 W := hE
          have v30 := (hF 30 (by decide) (hD 30 (by kernel_rfl))).eq rfl
          have g30 := hG 30 121 rfl (Nat.le_of_ble_eq_true rfl)
          rw [v30] at g30
          refine BigFrame.wpList_want (by simp [Region.wanted, yielded, g30]) ?_
          intro K hK
          have o3 := hO 3 (by kernel_rfl)
          replace o3 : aa.tmps[3]? = some (.slice (some ⟨gt, 0, none⟩) 2 2) := o3
          go_wp2_with fail
          first | exact ⟨_, rfl, Below.refl _ _, VK.val rfl rfl, trivial⟩ | exact ⟨_, rfl, Below.refl _ _, VK.val rfl rfl⟩
        · intro ys done W aa hE hn hF hD hZ hG hO
          replace hE : Below y2.heap.size y2 W := hE
          have v30 := (hF 30 (by decide) (hD 30 (by kernel_rfl))).eq rfl
          have g30 := hG 30 121 rfl (Nat.le_of_ble_eq_true rfl)
          rw [v30] at g30
          refine BigFrame.wpList_want (by simp [Region.wanted, yielded, g30]) ?_
          intro K hK
          go_wp2_with fail
          first | exact ⟨_, rfl, Below.refl _ _, VK.val rfl rfl, trivial⟩ | exact ⟨_, rfl, Below.refl _ _, VK.val rfl rfl⟩
        · intro ys done W aa hE hn hF hD hZ hG hO
          replace hE : Below y2.heap.size y2 W := hE
          have v30 := (hF 30 (by decide) (hD 30 (by kernel_rfl))).eq rfl
          have g30 := hG 30 121 rfl (Nat.le_of_ble_eq_true rfl)
          rw [v30] at g30
          refine BigFrame.wpList_want (by simp [Region.wanted, yielded, g30]) ?_
          intro K hK
          have v31 := (hF 31 (by decide) (hD 31 (by kernel_rfl))).eq rfl
          have g31 := hG 31 122 rfl (Nat.le_of_ble_eq_true rfl)
          rw [v31] at g31
          have v32 := (hF 32 (by decide) (hD 32 (by kernel_rfl))).eq rfl
          have g32 := hG 32 123 rfl (Nat.le_of_ble_eq_true rfl)
          rw [v32] at g32
          have v33 := (hF 33 (by decide) (hD 33 (by kernel_rfl))).eq rfl
          have g33 := hG 33 124 rfl (Nat.le_of_ble_eq_true rfl)
          rw [v33] at g33
          have v34 := (hF 34 (by decide) (hD 34 (by kernel_rfl))).eq rfl
          have g34 := hG 34 125 rfl (Nat.le_of_ble_eq_true rfl)
          rw [v34] at g34
          go_wp2_with fail
          refine (not_yes vBk _ _ lW tW (by decide) lW_nums 1 9 9 2 knV1 knE1 W (hK2.on hE).sg (hK2.on hE).row (hK2.on hE).rqs).mono ?_
          rintro e W' ⟨rfl, hb'⟩
          replace hb' := Lib.hid hb'
          go_wp2_with fail
          first | exact ⟨_, rfl, hb'.out, VK.val rfl rfl, trivial⟩ | exact ⟨_, rfl, hb'.out, VK.val rfl rfl⟩
        · intro ys done W aa hE hn hF hD hZ hG hO
          replace hE : Below y2.heap.size y2 W := hE
          have v30 := (hF 30 (by decide) (hD 30 (by kernel_rfl))).eq rfl
          have g30 := hG 30 121 rfl (Nat.le_of_ble_eq_true rfl)
          rw [v30] at g30
          have v35 := (hF 35 (by decide) (hD 35 (by kernel_rfl))).eq rfl
          have g35 := hG 35 126 rfl (Nat.le_of_ble_eq_true rfl)
          rw [v35] at g35
          go_wp2_with fail
          first | exact ⟨_, rfl, Below.refl _ _, VK.val rfl rfl, trivial⟩ | exact ⟨_, rfl, Below.refl _ _, VK.val rfl rfl⟩
        · intro ys done W aa hE hn hF hD hZ hG hO
          replace hE : Below y2.heap.size y2 W := hE
          have v36 := (hF 36 (by decide) (hD 36 (by kernel_rfl))).eq rfl
          have g36 := hG 36 127 rfl (Nat.le_of_ble_eq_true rfl)
          rw [v36] at g36
          go_wp2_with fail
          first | exact ⟨_, rfl, Below.refl _ _, VK.val rfl rfl, trivial⟩ | exact ⟨_, rfl, Below.refl _ _, VK.val rfl rfl⟩
        · intro ys done W aa hE hn hF hD hZ hG hO
          replace hE : Below y2.heap.size y2 W := hE
          have v37 := (hF 37 (by decide) (hD 37 (by kernel_rfl))).eq rfl
          have g37 := hG 37 128 rfl (Nat.le_of_ble_eq_true rfl)
          rw [v37] at g37
          refine BigFrame.wpList_want (by simp [Region.wanted, yielded, g37]) ?_
          intro K hK
          have o1 := hO 1 (by kernel_rfl)
          replace o1 : aa.tmps[1]? = some (.pointer (some ⟨p, 0, none⟩)) := o1
          have hAt := hK2.v.keep hE hK2.v.inside
          have p0 := hAt.cell 0
          have p1 := hAt.cell 1
          have p2 := hAt.cell 2
          have p3 := hAt.cell 3
          have p4 := hAt.cell 4
          simp at p0 p1 p2 p3 p4
          clear hAt
          go_wp2_with fail
          first | exact ⟨_, rfl, Below.refl _ _, VK.val rfl rfl, trivial⟩ | exact ⟨_, rfl, Below.refl _ _, VK.val rfl rfl⟩
        · intro ys done W aa hE hn hF hD hZ hG hO
          replace hE : Below y2.heap.size y2 W := hE
          have v37 := (hF 37 (by decide) (hD 37 (by kernel_rfl))).eq rfl
          have g37 := hG 37 128 rfl (Nat.le_of_ble_eq_true rfl)
          rw [v37] at g37
          refine BigFrame.wpList_want (by simp [Region.wanted, yielded, g37]) ?_
          intro K hK
          have o2 := hO 2 (by kernel_rfl)
          replace o2 : aa.tmps[2]? = some (.slice (some ⟨gl, 0, none⟩) 2 2) := o2
          go_wp2_with fail
          first | exact ⟨_, rfl, Below.refl _ _, VK.val rfl rfl, trivial⟩ | exact ⟨_, rfl, Below.refl _ _, VK.val rfl rfl⟩
        · intro ys done W aa hE hn hF hD hZ hG hO
          replace hE : Below y2.heap.size y2 W := hE
          have v37 := (hF 37 (by decide) (hD 37 (by kernel_rfl))).eq rfl
          have g37 := hG 37 128 rfl (Nat.le_of_ble_eq_true rfl)
          rw [v37] at g37
          refine BigFrame.wpList_want (by simp [Region.wanted, yielded, g37]) ?_
          intro K hK
          have o6 := hO 6 (by kernel_rfl)
          replace o6 : aa.tmps[6]? = some (.slice x7 3 c7) := o6
          go_wp2_with fail
          first | exact ⟨_, rfl, Below.refl _ _, VK.val rfl rfl, trivial⟩ | exact ⟨_, rfl, Below.refl _ _, VK.val rfl rfl⟩
        · intro ys done W aa hE hn hF hD hZ hG hO
          replace hE : Below y2.heap.size y2 W := hE
          have v37 := (hF 37 (by decide) (hD 37 (by kernel_rfl))).eq rfl
          have g37 := hG 37 128 rfl (Nat.le_of_ble_eq_true rfl)
          rw [v37] at g37
          refine BigFrame.wpList_want (by simp [Region.wanted, yielded, g37]) ?_
          intro K hK
          go_wp2_with fail
          first | exact ⟨_, rfl, Below.refl _ _, VK.val rfl rfl, trivial⟩ | exact ⟨_, rfl, Below.refl _ _, VK.val rfl rfl⟩
        · intro ys done W aa hE hn hF hD hZ hG hO
          replace hE : Below y2.heap.size y2 W := hE
          have v37 := (hF 37 (by decide) (hD 37 (by kernel_rfl))).eq rfl
          have g37 := hG 37 128 rfl (Nat.le_of_ble_eq_true rfl)
          rw [v37] at g37
          refine BigFrame.wpList_want (by simp [Region.wanted, yielded, g37]) ?_
          intro K hK
          have v38 := (hF 38 (by decide) (hD 38 (by kernel_rfl))).eq rfl
          have g38 := hG 38 129 rfl (Nat.le_of_ble_eq_true rfl)
          rw [v38] at g38
          have v39 := (hF 39 (by decide) (hD 39 (by kernel_rfl))).eq rfl
          have g39 := hG 39 130 rfl (Nat.le_of_ble_eq_true rfl)
          rw [v39] at g39
          have v40 := (hF 40 (by decide) (hD 40 (by kernel_rfl))).eq rfl
          have g40 := hG 40 131 rfl (Nat.le_of_ble_eq_true rfl)
          rw [v40] at g40
          have v41 := (hF 41 (by decide) (hD 41 (by kernel_rfl))).eq rfl
          have g41 := hG 41 132 rfl (Nat.le_of_ble_eq_true rfl)
          rw [v41] at g41
          go_wp2_with fail
          refine (not_yes vW _ _ lW (tW ++ [q0k]) (by decide) lW_nums 1 0 0 2 knV2 knE2 W (hK2.on hE).sg (hK2.on hE).row (hK2.on hE).o).mono ?_
          rintro e W' ⟨rfl, hb'⟩
          replace hb' := Lib.hid hb'
          go_wp2_with fail
          first | exact ⟨_, rfl, hb'.out, VK.val rfl rfl, trivial⟩ | exact ⟨_, rfl, hb'.out, VK.val rfl rfl⟩
        · intro ys done W aa hE hn hF hD hZ hG hO
          replace hE : Below y2.heap.size y2 W := hE
          have v37 := (hF 37 (by decide) (hD 37 (by kernel_rfl))).eq rfl
          have g37 := hG 37 128 rfl (Nat.le_of_ble_eq_true rfl)
          rw [v37] at g37
          have v42 := (hF 42 (by decide) (hD 42 (by kernel_rfl))).eq rfl
          have g42 := hG 42 133 rfl (Nat.le_of_ble_eq_true rfl)
          rw [v42] at g42
          go_wp2_with fail
          first | exact ⟨_, rfl, Below.refl _ _, VK.val rfl rfl, trivial⟩ | exact ⟨_, rfl, Below.refl _ _, VK.val rfl rfl⟩
        · intro ys done W aa hE hn hF hD hZ hG hO
          replace hE : Below y2.heap.size y2 W := hE
          have v43 := (hF 43 (by decide) (hD 43 (by kernel_rfl))).eq rfl
          have g43 := hG 43 134 rfl (Nat.le_of_ble_eq_true rfl)
          rw [v43] at g43
          go_wp2_with fail
          first | exact ⟨_, rfl, Below.refl _ _, VK.val rfl rfl, trivial⟩ | exact ⟨_, rfl, Below.refl _ _, VK.val rfl rfl⟩
        · intro ys done W aa hE hn hF hD hZ hG hO
          replace hE : Below y2.heap.size y2 W := hE
          have v44 := (hF 44 (by decide) (hD 44 (by kernel_rfl))).eq rfl
          have g44 := hG 44 135 rfl (Nat.le_of_ble_eq_true rfl)
          rw [v44] at g44
          refine BigFrame.wpList_want (by simp [Region.wanted, yielded, g44]) ?_
          intro K hK
          have o1 := hO 1 (by kernel_rfl)
          replace o1 : aa.tmps[1]? = some (.pointer (some ⟨p, 0, none⟩)) := o1
          have hAt := hK2.v.keep hE hK2.v.inside
          have p0 := hAt.cell 0
          have p1 := hAt.cell 1
          have p2 := hAt.cell 2
          have p3 := hAt.cell 3
          have p4 := hAt.cell 4
          simp at p0 p1 p2 p3 p4
          clear hAt
          go_wp2_with fail
          first | exact ⟨_, rfl, Below.refl _ _, VK.val rfl rfl, trivial⟩ | exact ⟨_, rfl, Below.refl _ _, VK.val rfl rfl⟩
        · intro ys done W aa hE hn hF hD hZ hG hO
          replace hE : Below y2.heap.size y2 W := hE
          have v44 := (hF 44 (by decide) (hD 44 (by kernel_rfl))).eq rfl
          have g44 := hG 44 135 rfl (Nat.le_of_ble_eq_true rfl)
          rw [v44] at g44
          refine BigFrame.wpList_want (by simp [Region.wanted, yielded, g44]) ?_
          intro K hK
          have o2 := hO 2 (by kernel_rfl)
          replace o2 : aa.tmps[2]? = some (.slice (some ⟨gl, 0, none⟩) 2 2) := o2
          go_wp2_with fail
          first | exact ⟨_, rfl, Below.refl _ _, VK.val rfl rfl, trivial⟩ | exact ⟨_, rfl, Below.refl _ _, VK.val rfl rfl⟩
        · intro ys done W aa hE hn hF hD hZ hG hO
          replace hE : Below y2.heap.size y2 W := hE
          have v44 := (hF 44 (by decide) (hD 44 (by kernel_rfl))).eq rfl
          have g44 := hG 44 135 rfl (Nat.le_of_ble_eq_true rfl)
          rw [v44] at g44
          refine BigFrame.wpList_want (by simp [Region.wanted, yielded, g44]) ?_
          intro K hK
          have v46 := (hF 46 (by decide) (hD 46 (by kernel_rfl))).eq rfl
          have g46 := hG 46 137 rfl (Nat.le_of_ble_eq_true rfl)
          rw [v46] at g46
          go_wp2_with fail
          first | exact ⟨_, rfl, Below.refl _ _, VK.val rfl rfl, trivial⟩ | exact ⟨_, rfl, Below.refl _ _, VK.val rfl rfl⟩
        · intro ys done W aa hE hn hF hD hZ hG hO
          replace hE : Below y2.heap.size y2 W := hE
          have v44 := (hF 44 (by decide) (hD 44 (by kernel_rfl))).eq rfl
          have g44 := hG 44 135 rfl (Nat.le_of_ble_eq_true rfl)
          rw [v44] at g44
          refine BigFrame.wpList_want (by simp [Region.wanted, yielded, g44]) ?_
          intro K hK
          have o3 := hO 3 (by kernel_rfl)
          replace o3 : aa.tmps[3]? = some (.slice (some ⟨gt, 0, none⟩) 2 2) := o3
          go_wp2_with fail
          first | exact ⟨_, rfl, Below.refl _ _, VK.val rfl rfl, trivial⟩ | exact ⟨_, rfl, Below.refl _ _, VK.val rfl rfl⟩
        · intro ys done W aa hE hn hF hD hZ hG hO
          replace hE : Below y2.heap.size y2 W := hE
          have v44 := (hF 44 (by decide) (hD 44 (by kernel_rfl))).eq rfl
          have g44 := hG 44 135 rfl (Nat.le_of_ble_eq_true rfl)
          rw [v44] at g44
          refine BigFrame.wpList_want (by simp [Region.wanted, yielded, g44]) ?_
          intro K hK
          go_wp2_with fail
          first | exact ⟨_, rfl, Below.refl _ _, VK.val rfl rfl, trivial⟩ | exact ⟨_, rfl, Below.refl _ _, VK.val rfl rfl⟩
        · intro ys done W aa hE hn hF hD hZ hG hO
          replace hE : Below y2.heap.size y2 W := hE
          have v44 := (hF 44 (by decide) (hD 44 (by kernel_rfl))).eq rfl
          have g44 := hG 44 135 rfl (Nat.le_of_ble_eq_true rfl)
          rw [v44] at g44
          refine BigFrame.wpList_want (by simp [Region.wanted, yielded, g44]) ?_
          intro K hK
          have v45 := (hF 45 (by decide) (hD 45 (by kernel_rfl))).eq rfl
          have g45 := hG 45 136 rfl (Nat.le_of_ble_eq_true rfl)
          rw [v45] at g45
          have v47 := (hF 47 (by decide) (hD 47 (by kernel_rfl))).eq rfl
          have g47 := hG 47 138 rfl (Nat.le_of_ble_eq_true rfl)
          rw [v47] at g47
          have v48 := (hF 48 (by decide) (hD 48 (by kernel_rfl))).eq rfl
          have g48 := hG 48 139 rfl (Nat.le_of_ble_eq_true rfl)
          rw [v48] at g48
          have v49 := (hF 49 (by decide) (hD 49 (by kernel_rfl))).eq rfl
          have g49 := hG 49 140 rfl (Nat.le_of_ble_eq_true rfl)
          rw [v49] at g49
          go_wp2_with fail
          refine (not_yes vW _ _ (lW.take 1) tW (by decide) l1_nums 1 0 0 8 knV3 knE3 W (hK2.on hE).sg (Row.cutTo (N := 2) (k := 1) (hK2.on hE).row rfl (by decide)) (hK2.on hE).rqs).mono ?_
          rintro e W' ⟨rfl, hb'⟩
          replace hb' := Lib.hid hb'
          go_wp2_with fail
          first | exact ⟨_, rfl, hb'.out, VK.val rfl rfl, trivial⟩ | exact ⟨_, rfl, hb'.out, VK.val rfl rfl⟩
        · intro ys done W aa hE hn hF hD hZ hG hO
          replace hE : Below y2.heap.size y2 W := hE
          have v44 := (hF 44 (by decide) (hD 44 (by kernel_rfl))).eq rfl
          have g44 := hG 44 135 rfl (Nat.le_of_ble_eq_true rfl)
          rw [v44] at g44
          have v50 := (hF 50 (by decide) (hD 50 (by kernel_rfl))).eq rfl
          have g50 := hG 50 141 rfl (Nat.le_of_ble_eq_true rfl)
          rw [v50] at g50
          go_wp2_with fail
          first | exact ⟨_, rfl, Below.refl _ _, VK.val rfl rfl, trivial⟩ | exact ⟨_, rfl, Below.refl _ _, VK.val rfl rfl⟩
        · intro ys done W aa hE hn hF hD hZ hG hO
          replace hE : Below y2.heap.size y2 W := hE
          have v51 := (hF 51 (by decide) (hD 51 (by kernel_rfl))).eq rfl
          have g51 := hG 51 142 rfl (Nat.le_of_ble_eq_true rfl)
          rw [v51] at g51
          go_wp2_with fail
          first | exact ⟨_, rfl, Below.refl _ _, VK.val rfl rfl, trivial⟩ | exact ⟨_, rfl, Below.refl _ _, VK.val rfl rfl⟩
        · intro ys done W aa hE hn hF hD hZ hG hO
          replace hE : Below y2.heap.size y2 W := hE
          have v52 := (hF 52 (by decide) (hD 52 (by kernel_rfl))).eq rfl
          have g52 := hG 52 143 rfl (Nat.le_of_ble_eq_true rfl)
          rw [v52] at g52
          refine BigFrame.wpList_want (by simp [Region.wanted, yielded, g52]) ?_
          intro K hK
          have o5 := hO 5 (by kernel_rfl)
          replace o5 : aa.tmps[5]? = some (.pointer (some ⟨gh, 0, none⟩)) := o5
          have hAt := hK2.h.keep hE hK2.h.inside
          have p0 := hAt.cell 0
          have p1 := hAt.cell 1
          have p2 := hAt.cell 2
          have p3 := hAt.cell 3
          have p4 := hAt.cell 4
          simp at p0 p1 p2 p3 p4
          clear hAt
          go_wp2_with fail
          first | exact ⟨_, rfl, Below.refl _ _, VK.val rfl rfl, trivial⟩ | exact ⟨_, rfl, Below.refl _ _, VK.val rfl rfl⟩
        · intro ys done W aa hE hn hF hD hZ hG hO
          replace hE : Below y2.heap.size y2 W := hE
          have v52 := (hF 52 (by decide) (hD 52 (by kernel_rfl))).eq rfl
          have g52 := hG 52 143 rfl (Nat.le_of_ble_eq_true rfl)
          rw [v52] at g52
          refine BigFrame.wpList_want (by simp [Region.wanted, yielded, g52]) ?_
          intro K hK
          have o2 := hO 2 (by kernel_rfl)
          replace o2 : aa.tmps[2]? = some (.slice (some ⟨gl, 0, none⟩) 2 2) := o2
          go_wp2_with fail
          first | exact ⟨_, rfl, Below.refl _ _, VK.val rfl rfl, trivial⟩ | exact ⟨_, rfl, Below.refl _ _, VK.val rfl rfl⟩
        · intro ys done W aa hE hn hF hD hZ hG hO
          replace hE : Below y2.heap.size y2 W := hE
          have v52 := (hF 52 (by decide) (hD 52 (by kernel_rfl))).eq rfl
          have g52 := hG 52 143 rfl (Nat.le_of_ble_eq_true rfl)
          rw [v52] at g52
          refine BigFrame.wpList_want (by simp [Region.wanted, yielded, g52]) ?_
          intro K hK
          have o3 := hO 3 (by kernel_rfl)
          replace o3 : aa.tmps[3]? = some (.slice (some ⟨gt, 0, none⟩) 2 2) := o3
          go_wp2_with fail
          first | exact ⟨_, rfl, Below.refl _ _, VK.val rfl rfl, trivial⟩ | exact ⟨_, rfl, Below.refl _ _, VK.val rfl rfl⟩
        · intro ys done W aa hE hn hF hD hZ hG hO
          replace hE : Below y2.heap.size y2 W := hE
          have v52 := (hF 52 (by decide) (hD 52 (by kernel_rfl))).eq rfl
          have g52 := hG 52 143 rfl (Nat.le_of_ble_eq_true rfl)
          rw [v52] at g52
          refine BigFrame.wpList_want (by simp [Region.wanted, yielded, g52]) ?_
          intro K hK
          go_wp2_with fail
          first | exact ⟨_, rfl, Below.refl _ _, VK.val rfl rfl, trivial⟩ | exact ⟨_, rfl, Below.refl _ _, VK.val rfl rfl⟩
        · intro ys done W aa hE hn hF hD hZ hG hO
          replace hE : Below y2.heap.size y2 W := hE
          have v52 := (hF 52 (by decide) (hD 52 (by kernel_rfl))).eq rfl
          have g52 := hG 52 143 rfl (Nat.le_of_ble_eq_true rfl)
          rw [v52] at g52
          refine BigFrame.wpList_want (by simp [Region.wanted, yielded, g52]) ?_
          intro K hK
          have v53 := (hF 53 (by decide) (hD 53 (by kernel_rfl))).eq rfl
          have g53 := hG 53 144 rfl (Nat.le_of_ble_eq_true rfl)
          rw [v53] at g53
          have v54 := (hF 54 (by decide) (hD 54 (by kernel_rfl))).eq rfl
          have g54 := hG 54 145 rfl (Nat.le_of_ble_eq_true rfl)
          rw [v54] at g54
          have v55 := (hF 55 (by decide) (hD 55 (by kernel_rfl))).eq rfl
          have g55 := hG 55 146 rfl (Nat.le_of_ble_eq_true rfl)
          rw [v55] at g55
          have v56 := (hF 56 (by decide) (hD 56 (by kernel_rfl))).eq rfl
          have g56 := hG 56 147 rfl (Nat.le_of_ble_eq_true rfl)
          rw [v56] at g56
          go_wp2_with fail
          refine (not_yes vLk _ _ lW tW (by decide) lW_nums 1 0 0 9 knV4 knE4 W (hK2.on hE).sg (hK2.on hE).row (hK2.on hE).rqs).mono ?_
          rintro e W' ⟨rfl, hb'⟩
          replace hb' := Lib.hid hb'
          go_wp2_with fail
          first | exact ⟨_, rfl, hb'.out, VK.val rfl rfl, trivial⟩ | exact ⟨_, rfl, hb'.out, VK.val rfl rfl⟩
        · intro ys done W aa hE hn hF hD hZ hG hO
          replace hE : Below y2.heap.size y2 W := hE
          have v52 := (hF 52 (by decide) (hD 52 (by kernel_rfl))).eq rfl
          have g52 := hG 52 143 rfl (Nat.le_of_ble_eq_true rfl)
          rw [v52] at g52
          have v57 := (hF 57 (by decide) (hD 57 (by kernel_rfl))).eq rfl
          have g57 := hG 57 148 rfl (Nat.le_of_ble_eq_true rfl)
          rw [v57] at g57
          go_wp2_with fail
          first | exact ⟨_, rfl, Below.refl _ _, VK.val rfl rfl, trivial⟩ | exact ⟨_, rfl, Below.refl _ _, VK.val rfl rfl⟩
        · intro ys done W aa hE hn hF hD hZ hG hO
          replace hE : Below y2.heap.size y2 W := hE
          have v58 := (hF 58 (by decide) (hD 58 (by kernel_rfl))).eq rfl
          have g58 := hG 58 149 rfl (Nat.le_of_ble_eq_true rfl)
          rw [v58] at g58
          go_wp2_with fail
          first | exact ⟨_, rfl, Below.refl _ _, VK.val rfl rfl, trivial⟩ | exact ⟨_, rfl, Below.refl _ _, VK.val rfl rfl⟩
        · intro ys done W aa hE hn hF hD hZ hG hO
          replace hE : Below y2.heap.size y2 W := hE
          have v59 := (hF 59 (by decide) (hD 59 (by kernel_rfl))).eq rfl
          have g59 := hG 59 150 rfl (Nat.le_of_ble_eq_true rfl)
          rw [v59] at g59
          refine BigFrame.wpList_want (by simp [Region.wanted, yielded, g59]) ?_
          intro K hK
          have o1 := hO 1 (by kernel_rfl)
          replace o1 : aa.tmps[1]? = some (.pointer (some ⟨p, 0, none⟩)) := o1
          have hAt := hK2.v.keep hE hK2.v.inside
          have p0 := hAt.cell 0
          have p1 := hAt.cell 1
          have p2 := hAt.cell 2
          have p3 := hAt.cell 3
          have p4 := hAt.cell 4
          simp at p0 p1 p2 p3 p4
          clear hAt
          go_wp2_with fail
          first | exact ⟨_, rfl, Below.refl _ _, VK.val rfl rfl, trivial⟩ | exact ⟨_, rfl, Below.refl _ _, VK.val rfl rfl⟩
        · intro ys done W aa hE hn hF hD hZ hG hO
          replace hE : Below y2.heap.size y2 W := hE
          have v59 := (hF 59 (by decide) (hD 59 (by kernel_rfl))).eq rfl
          have g59 := hG 59 150 rfl (Nat.le_of_ble_eq_true rfl)
          rw [v59] at g59
          refine BigFrame.wpList_want (by simp [Region.wanted, yielded, g59]) ?_
          intro K hK
          have o7 := hO 7 (by kernel_rfl)
          replace o7 : aa.tmps[7]? = some (.slice x1 16 c1) := o7
          go_wp2_with fail
          first | exact ⟨_, rfl, Below.refl _ _, VK.val rfl rfl, trivial⟩ | exact ⟨_, rfl, Below.refl _ _, VK.val rfl rfl⟩
        · intro ys done W aa hE hn hF hD hZ hG hO
          replace hE : Below y2.heap.size y2 W := hE
          have v59 := (hF 59 (by decide) (hD 59 (by kernel_rfl))).eq rfl
          have g59 := hG 59 150 rfl (Nat.le_of_ble_eq_true rfl)
          rw [v59] at g59
          refine BigFrame.wpList_want (by simp [Region.wanted, yielded, g59]) ?_
          intro K hK
          have o8 := hO 8 (by kernel_rfl)
          replace o8 : aa.tmps[8]? = some (.slice x2 9 c2) := o8
          go_wp2_with fail
          first | exact ⟨_, rfl, Below.refl _ _, VK.val rfl rfl, trivial⟩ | exact ⟨_, rfl, Below.refl _ _, VK.val rfl rfl⟩
        · intro ys done W aa hE hn hF hD hZ hG hO
          replace hE : Below y2.heap.size y2 W := hE
          have v59 := (hF 59 (by decide) (hD 59 (by kernel_rfl))).eq rfl
          have g59 := hG 59 150 rfl (Nat.le_of_ble_eq_true rfl)
          rw [v59] at g59
          refine BigFrame.wpList_want (by simp [Region.wanted, yielded, g59]) ?_
          intro K hK
          go_wp2_with fail
          first | exact ⟨_, rfl, Below.refl _ _, VK.val rfl rfl, trivial⟩ | exact ⟨_, rfl, Below.refl _ _, VK.val rfl rfl⟩
        · intro ys done W aa hE hn hF hD hZ hG hO
          replace hE : Below y2.heap.size y2 W := hE
          have v59 := (hF 59 (by decide) (hD 59 (by kernel_rfl))).eq rfl
          have g59 := hG 59 150 rfl (Nat.le_of_ble_eq_true rfl)
          rw [v59] at g59
          refine BigFrame.wpList_want (by simp [Region.wanted, yielded, g59]) ?_
          intro K hK
          have v60 := (hF 60 (by decide) (hD 60 (by kernel_rfl))).eq rfl
          have g60 := hG 60 151 rfl (Nat.le_of_ble_eq_true rfl)
          rw [v60] at g60
          have v61 := (hF 61 (by decide) (hD 61 (by kernel_rfl))).eq rfl
          have g61 := hG 61 152 rfl (Nat.le_of_ble_eq_true rfl)
          rw [v61] at g61
          have v62 := (hF 62 (by decide) (hD 62 (by kernel_rfl))).eq rfl
          have g62 := hG 62 153 rfl (Nat.le_of_ble_eq_true rfl)
          rw [v62] at g62
          have v63 := (hF 63 (by decide) (hD 63 (by kernel_rfl))).eq rfl
          have g63 := hG 63 154 rfl (Nat.le_of_ble_eq_true rfl)
          rw [v63] at g63
          go_wp2_with fail
          refine (not_yes vW _ _ (manyK 8) (allK 9) (by decide) many_nums 8 40 40 11 knV5 knE5 W (hK2.on hE).sg (hK2.on hE).m (hK2.on hE).a).mono ?_
          rintro e W' ⟨rfl, hb'⟩
          replace hb' := Lib.hid hb'
          go_wp2_with fail
          first | exact ⟨_, rfl, hb'.out, VK.val rfl rfl, trivial⟩ | exact ⟨_, rfl, hb'.out, VK.val rfl rfl⟩
        · intro ys done W aa hE hn hF hD hZ hG hO
          replace hE : Below y2.heap.size y2 W := hE
          have v59 := (hF 59 (by decide) (hD 59 (by kernel_rfl))).eq rfl
          have g59 := hG 59 150 rfl (Nat.le_of_ble_eq_true rfl)
          rw [v59] at g59
          have v64 := (hF 64 (by decide) (hD 64 (by kernel_rfl))).eq rfl
          have g64 := hG 64 155 rfl (Nat.le_of_ble_eq_true rfl)
          rw [v64] at g64
          go_wp2_with fail
          first | exact ⟨_, rfl, Below.refl _ _, VK.val rfl rfl, trivial⟩ | exact ⟨_, rfl, Below.refl _ _, VK.val rfl rfl⟩
        · intro ys done W aa hE hn hF hD hZ hG hO
          replace hE : Below y2.heap.size y2 W := hE
          have v65 := (hF 65 (by decide) (hD 65 (by kernel_rfl))).eq rfl
          have g65 := hG 65 156 rfl (Nat.le_of_ble_eq_true rfl)
          rw [v65] at g65
          go_wp2_with fail
          first | exact ⟨_, rfl, Below.refl _ _, VK.val rfl rfl, trivial⟩ | exact ⟨_, rfl, Below.refl _ _, VK.val rfl rfl⟩
        · intro ys done W aa hE hn hF hD hZ hG hO
          replace hE : Below y2.heap.size y2 W := hE
          have v66 := (hF 66 (by decide) (hD 66 (by kernel_rfl))).eq rfl
          have g66 := hG 66 157 rfl (Nat.le_of_ble_eq_true rfl)
          rw [v66] at g66
          refine BigFrame.wpList_want (by simp [Region.wanted, yielded, g66]) ?_
          intro K hK
          have o1 := hO 1 (by kernel_rfl)
          replace o1 : aa.tmps[1]? = some (.pointer (some ⟨p, 0, none⟩)) := o1
          have hAt := hK2.v.keep hE hK2.v.inside
          have p0 := hAt.cell 0
          have p1 := hAt.cell 1
          have p2 := hAt.cell 2
          have p3 := hAt.cell 3
          have p4 := hAt.cell 4
          simp at p0 p1 p2 p3 p4
          clear hAt
          go_wp2_with fail
          first | exact ⟨_, rfl, Below.refl _ _, VK.val rfl rfl, trivial⟩ | exact ⟨_, rfl, Below.refl _ _, VK.val rfl rfl⟩
        · intro ys done W aa hE hn hF hD hZ hG hO
          replace hE : Below y2.heap.size y2 W := hE
          have v66 := (hF 66 (by decide) (hD 66 (by kernel_rfl))).eq rfl
          have g66 := hG 66 157 rfl (Nat.le_of_ble_eq_true rfl)
          rw [v66] at g66
          refine BigFrame.wpList_want (by simp [Region.wanted, yielded, g66]) ?_
          intro K hK
          have o7 := hO 7 (by kernel_rfl)
          replace o7 : aa.tmps[7]? = some (.slice x1 16 c1) := o7
          go_wp2_with fail
          first | exact ⟨_, rfl, Below.refl _ _, VK.val rfl rfl, trivial⟩ | exact ⟨_, rfl, Below.refl _ _, VK.val rfl rfl⟩
        · intro ys done W aa hE hn hF hD hZ hG hO
          replace hE : Below y2.heap.size y2 W := hE
          have v66 := (hF 66 (by decide) (hD 66 (by kernel_rfl))).eq rfl
          have g66 := hG 66 157 rfl (Nat.le_of_ble_eq_true rfl)
          rw [v66] at g66
          refine BigFrame.wpList_want (by simp [Region.wanted, yielded, g66]) ?_
          intro K hK
          have v68 := (hF 68 (by decide) (hD 68 (by kernel_rfl))).eq rfl
          have g68 := hG 68 159 rfl (Nat.le_of_ble_eq_true rfl)
          rw [v68] at g68
          go_wp2_with fail
          first | exact ⟨_, rfl, Below.refl _ _, VK.val rfl rfl, trivial⟩ | exact ⟨_, rfl, Below.refl _ _, VK.val rfl rfl⟩
        · intro ys done W aa hE hn hF hD hZ hG hO
          replace hE : Below y2.heap.size y2 W := hE
          have v66 := (hF 66 (by decide) (hD 66 (by kernel_rfl))).eq rfl
          have g66 := hG 66 157 rfl (Nat.le_of_ble_eq_true rfl)
          rw [v66] at g66
          refine BigFrame.wpList_want (by simp [Region.wanted, yielded, g66]) ?_
          intro K hK
          have o8 := hO 8 (by kernel_rfl)
          replace o8 : aa.tmps[8]? = some (.slice x2 9 c2) := o8
          go_wp2_with fail
          first | exact ⟨_, rfl, Below.refl _ _, VK.val rfl rfl, trivial⟩ | exact ⟨_, rfl, Below.refl _ _, VK.val rfl rfl⟩
        · intro ys done W aa hE hn hF hD hZ hG hO
          replace hE : Below y2.heap.size y2 W := hE
          have v66 := (hF 66 (by decide) (hD 66 (by kernel_rfl))).eq rfl
          have g66 := hG 66 157 rfl (Nat.le_of_ble_eq_true rfl)
          rw [v66] at g66
          refine BigFrame.wpList_want (by simp [Region.wanted, yielded, g66]) ?_
          intro K hK
          go_wp2_with fail
          first | exact ⟨_, rfl, Below.refl _ _, VK.val rfl rfl, trivial⟩ | exact ⟨_, rfl, Below.refl _ _, VK.val rfl rfl⟩
        · intro ys done W aa hE hn hF hD hZ hG hO
          replace hE : Below y2.heap.size y2 W := hE
          have v66 := (hF 66 (by decide) (hD 66 (by kernel_rfl))).eq rfl
          have g66 := hG 66 157 rfl (Nat.le_of_ble_eq_true rfl)
          rw [v66] at g66
          refine BigFrame.wpList_want (by simp [Region.wanted, yielded, g66]) ?_
          intro K hK
          have v67 := (hF 67 (by decide) (hD 67 (by kernel_rfl))).eq rfl
          have g67 := hG 67 158 rfl (Nat.le_of_ble_eq_true rfl)
          rw [v67] at g67
          have v69 := (hF 69 (by decide) (hD 69 (by kernel_rfl))).eq rfl
          have g69 := hG 69 160 rfl (Nat.le_of_ble_eq_true rfl)
          rw [v69] at g69
          have v70 := (hF 70 (by decide) (hD 70 (by kernel_rfl))).eq rfl
          have g70 := hG 70 161 rfl (Nat.le_of_ble_eq_true rfl)
          rw [v70] at g70
          have v71 := (hF 71 (by decide) (hD 71 (by kernel_rfl))).eq rfl
          have g71 := hG 71 162 rfl (Nat.le_of_ble_eq_true rfl)
          rw [v71] at g71
          go_wp2_with fail
          refine (costs_yes vW _ _ ((manyK 8).take 14) (allK 9) (by decide) many14_nums 8 3 9 0 knV6 knE6 W (hK2.on hE).sg (Row.cutTo (N := 16) (k := 14) (hK2.on hE).m (manyK_len 8) (by decide)) (hK2.on hE).a).mono ?_
          rintro e W' ⟨rfl, hb'⟩
          replace hb' := Lib.hid hb'
          go_wp2_with fail
          first | exact ⟨_, rfl, hb'.out, VK.val rfl rfl, trivial⟩ | exact ⟨_, rfl, hb'.out, VK.val rfl rfl⟩
        · intro ys done W aa hE hn hF hD hZ hG hO
          replace hE : Below y2.heap.size y2 W := hE
          have v66 := (hF 66 (by decide) (hD 66 (by kernel_rfl))).eq rfl
          have g66 := hG 66 157 rfl (Nat.le_of_ble_eq_true rfl)
          rw [v66] at g66
          have v72 := (hF 72 (by decide) (hD 72 (by kernel_rfl))).eq rfl
          have g72 := hG 72 163 rfl (Nat.le_of_ble_eq_true rfl)
          rw [v72] at g72
          go_wp2_with fail
          first | exact ⟨_, rfl, Below.refl _ _, VK.val rfl rfl, trivial⟩ | exact ⟨_, rfl, Below.refl _ _, VK.val rfl rfl⟩
        · intro ys done W aa hE hn hF hD hZ hG hO
          replace hE : Below y2.heap.size y2 W := hE
          have v73 := (hF 73 (by decide) (hD 73 (by kernel_rfl))).eq rfl
          have g73 := hG 73 164 rfl (Nat.le_of_ble_eq_true rfl)
          rw [v73] at g73
          go_wp2_with fail
          first | exact ⟨_, rfl, Below.refl _ _, VK.val rfl rfl, trivial⟩ | exact ⟨_, rfl, Below.refl _ _, VK.val rfl rfl⟩
        · intro ys done W aa hE hn hF hD hZ hG hO
          replace hE : Below y2.heap.size y2 W := hE
          have v74 := (hF 74 (by decide) (hD 74 (by kernel_rfl))).eq rfl
          have g74 := hG 74 165 rfl (Nat.le_of_ble_eq_true rfl)
          rw [v74] at g74
          refine BigFrame.wpList_want (by simp [Region.wanted, yielded, g74]) ?_
          intro K hK
          have o1 := hO 1 (by kernel_rfl)
          replace o1 : aa.tmps[1]? = some (.pointer (some ⟨p, 0, none⟩)) := o1
          have hAt := hK2.v.keep hE hK2.v.inside
          have p0 := hAt.cell 0
          have p1 := hAt.cell 1
          have p2 := hAt.cell 2
          have p3 := hAt.cell 3
          have p4 := hAt.cell 4
          simp at p0 p1 p2 p3 p4
          clear hAt
          go_wp2_with fail
          first | exact ⟨_, rfl, Below.refl _ _, VK.val rfl rfl, trivial⟩ | exact ⟨_, rfl, Below.refl _ _, VK.val rfl rfl⟩
        · intro ys done W aa hE hn hF hD hZ hG hO
          replace hE : Below y2.heap.size y2 W := hE
          have v74 := (hF 74 (by decide) (hD 74 (by kernel_rfl))).eq rfl
          have g74 := hG 74 165 rfl (Nat.le_of_ble_eq_true rfl)
          rw [v74] at g74
          refine BigFrame.wpList_want (by simp [Region.wanted, yielded, g74]) ?_
          intro K hK
          have o7 := hO 7 (by kernel_rfl)
          replace o7 : aa.tmps[7]? = some (.slice x1 16 c1) := o7
          go_wp2_with fail
          first | exact ⟨_, rfl, Below.refl _ _, VK.val rfl rfl, trivial⟩ | exact ⟨_, rfl, Below.refl _ _, VK.val rfl rfl⟩
        · intro ys done W aa hE hn hF hD hZ hG hO
          replace hE : Below y2.heap.size y2 W := hE
          have v74 := (hF 74 (by decide) (hD 74 (by kernel_rfl))).eq rfl
          have g74 := hG 74 165 rfl (Nat.le_of_ble_eq_true rfl)
          rw [v74] at g74
          refine BigFrame.wpList_want (by simp [Region.wanted, yielded, g74]) ?_
          intro K hK
          have v76 := (hF 76 (by decide) (hD 76 (by kernel_rfl))).eq rfl
          have g76 := hG 76 167 rfl (Nat.le_of_ble_eq_true rfl)
          rw [v76] at g76
          go_wp2_with fail
          first | exact ⟨_, rfl, Below.refl _ _, VK.val rfl rfl, trivial⟩ | exact ⟨_, rfl, Below.refl _ _, VK.val rfl rfl⟩
        · intro ys done W aa hE hn hF hD hZ hG hO
          replace hE : Below y2.heap.size y2 W := hE
          have v74 := (hF 74 (by decide) (hD 74 (by kernel_rfl))).eq rfl
          have g74 := hG 74 165 rfl (Nat.le_of_ble_eq_true rfl)
          rw [v74] at g74
          refine BigFrame.wpList_want (by simp [Region.wanted, yielded, g74]) ?_
          intro K hK
          have o8 := hO 8 (by kernel_rfl)
          replace o8 : aa.tmps[8]? = some (.slice x2 9 c2) := o8
          go_wp2_with fail
          first | exact ⟨_, rfl, Below.refl _ _, VK.val rfl rfl, trivial⟩ | exact ⟨_, rfl, Below.refl _ _, VK.val rfl rfl⟩
        · intro ys done W aa hE hn hF hD hZ hG hO
          replace hE : Below y2.heap.size y2 W := hE
          have v74 := (hF 74 (by decide) (hD 74 (by kernel_rfl))).eq rfl
          have g74 := hG 74 165 rfl (Nat.le_of_ble_eq_true rfl)
          rw [v74] at g74
          refine BigFrame.wpList_want (by simp [Region.wanted, yielded, g74]) ?_
          intro K hK
          go_wp2_with fail
          first | exact ⟨_, rfl, Below.refl _ _, VK.val rfl rfl, trivial⟩ | exact ⟨_, rfl, Below.refl _ _, VK.val rfl rfl⟩
        · intro ys done W aa hE hn hF hD hZ hG hO
          replace hE : Below y2.heap.size y2 W := hE
          have v74 := (hF 74 (by decide) (hD 74 (by kernel_rfl))).eq rfl
          have g74 := hG 74 165 rfl (Nat.le_of_ble_eq_true rfl)
          rw [v74] at g74
          refine BigFrame.wpList_want (by simp [Region.wanted, yielded, g74]) ?_
          intro K hK
          have v75 := (hF 75 (by decide) (hD 75 (by kernel_rfl))).eq rfl
          have g75 := hG 75 166 rfl (Nat.le_of_ble_eq_true rfl)
          rw [v75] at g75
          have v77 := (hF 77 (by decide) (hD 77 (by kernel_rfl))).eq rfl
          have g77 := hG 77 168 rfl (Nat.le_of_ble_eq_true rfl)
          rw [v77] at g77
          have v78 := (hF 78 (by decide) (hD 78 (by kernel_rfl))).eq rfl
          have g78 := hG 78 169 rfl (Nat.le_of_ble_eq_true rfl)
          rw [v78] at g78
          have v79 := (hF 79 (by decide) (hD 79 (by kernel_rfl))).eq rfl
          have g79 := hG 79 170 rfl (Nat.le_of_ble_eq_true rfl)
          rw [v79] at g79
          go_wp2_with fail
          refine (not_yes vW _ _ ((manyK 8).take 14) (allK 9) (by decide) many14_nums 8 3 15 8 knV7 knE7 W (hK2.on hE).sg (Row.cutTo (N := 16) (k := 14) (hK2.on hE).m (manyK_len 8) (by decide)) (hK2.on hE).a).mono ?_
          rintro e W' ⟨rfl, hb'⟩
          replace hb' := Lib.hid hb'
          go_wp2_with fail
          first | exact ⟨_, rfl, hb'.out, VK.val rfl rfl, trivial⟩ | exact ⟨_, rfl, hb'.out, VK.val rfl rfl⟩
        · intro ys done W aa hE hn hF hD hZ hG hO
          replace hE : Below y2.heap.size y2 W := hE
          have v74 := (hF 74 (by decide) (hD 74 (by kernel_rfl))).eq rfl
          have g74 := hG 74 165 rfl (Nat.le_of_ble_eq_true rfl)
          rw [v74] at g74
          have v80 := (hF 80 (by decide) (hD 80 (by kernel_rfl))).eq rfl
          have g80 := hG 80 171 rfl (Nat.le_of_ble_eq_true rfl)
          rw [v80] at g80
          go_wp2_with fail
          first | exact ⟨_, rfl, Below.refl _ _, VK.val rfl rfl, trivial⟩ | exact ⟨_, rfl, Below.refl _ _, VK.val rfl rfl⟩
       case hQ27 =>
        intro ys y3 hE hF _
        replace hE : Below y2.heap.size y2 y3 := hE
        have v81 := (hF 81 (by decide)).eq rfl
        have hK3 := hK2.on hE
        have hM3 := Lib.hid (marked hM2.out hE)
        have hN3 := Lib.hid (marked hN2.out hE)
        simp only [List.append_eq, List.cons_append, List.nil_append, List.take_succ_cons, List.take_zero, List.drop_succ_cons, List.drop_zero, Sched.fill, v81]
        clear hF v81
        go_simp
        clear hK2 hA2 hM2 hN2 hE
        have hr := hK3.r
        have r0 := hr.cell 0
        have rf := hr.free 0
        simp at r0
        have hri := hr.inside
        have hr' := Lib.hid hr
        have hqb : Hid (Below w.heap.size w (y3.setCell ⟨q, 0, none⟩ (.bool true))) := Lib.hid (hK3.b.setCell (by show w.heap.size ≤ q; rw [hq'.out]; exact Nat.le_refl _) _)
        have hqk : q < k := hlta.out.1
        clear hr hK3
        go_wp2
        obtain ⟨y, hy⟩ : ∃ y, y3.setCell ⟨q, 0, none⟩ (.bool true) = y := ⟨_, rfl⟩
        have hRy : At y q 4 #[.bool true] := by rw [← hy]; simpa using hr'.out.put 0 (.bool true)
        have hMy : y.heap[k + 4]? = some (.deferred (some [])) := by rw [← hy]; exact (Below.heap_setCell _ _ _ _ (by show k + 4 ≠ q; omega)).trans hM3.out
        have hNy : y.heap[m + 1]? = some (.deferred (some [])) := by rw [← hy]; exact (Below.heap_setCell _ _ _ _ (by show m + 1 ≠ q; omega)).trans hN3.out
        have hBy : Below w.heap.size w y := by rw [← hy]; exact hqb.out
        rw [hy]
        try simp only [hsc'.out, hs9'.out]
        refine ⟨by simp, .inl ⟨_, _, rfl, run_takeDeferred hNy, ?_⟩⟩
        have hM2 : (y.putObj (m + 1) (.deferred none)).heap[k + 4]? = some (.deferred (some [])) := (World.putObj_heap_other (by omega)).trans hMy
        have hR2 : At (y.putObj (m + 1) (.deferred none)) q 4 #[.bool true] := (World.putObj_heap_other (by omega)).trans hRy
        have hB2 := putBelow (o := .deferred none) (d := m + 1) hBy (by have := hq'.out; omega) hBy.size
        refine ⟨by simp, .inl ⟨_, _, rfl, run_takeDeferred hM2, ?_⟩⟩
        have hR3 : At ((y.putObj (m + 1) (.deferred none)).putObj (k + 4) (.deferred none)) q 4 #[.bool true] := (World.putObj_heap_other (by omega)).trans hR2
        have hB3 := putBelow (o := .deferred none) (d := k + 4) hB2 (by have := hq'.out; omega) hB2.size
        have hc := hR3.cell 0
        simp at hc
        exact ⟨.bool true, by simp [results, Tryd.results9, go_sem, hc], rfl, hB3⟩

end Go.Proofs.YthjdacbgcpldjaaDoor.Ins

/-
  InsertKnown, the chapter's examples; rows that are none, too short, or too long; which fault comes first; how many pairs of places there are, returns true. Its condition: package load's variable signs is as the program's text lays it when the call begins, which the card ties to that text.
-/
namespace Go.Proofs.YthjdacbgcpldjaaDoor.insertKnown
open Go.ChangeShapes Go.WideShapes Go.ChangeAt Go.RowKit Go.Sort
open Go.Proofs.YthjdacbgcpldjaaDoor.Ins Go.Proofs.YthjdacbgcpldjaaDoor.Laid Go.Proofs.YthjdacbgcpldjaaDoor.When
set_option linter.unusedVariables false

set_option maxRecDepth 100000 in
theorem lifted (os : Os) (started : os.Started) (H : Type) (enc : TypeId × Value → H) :
    ReturnsInHanded {} Tryd.checked os 9 .any (fun w args => (Rows.insertKnownSpec.pre enc Tryd.prog Tryd.f9 [] false w args ∧ laidMetH Tryd.prog Rows.insertKnownRow.laid w) ∧ sizedMet enc Tryd.prog Tryd.f9 (OpenSpec.ofChange Rows.insertKnownSpec) false w args)
      (Rows.insertKnownSpec.post enc Tryd.prog Tryd.f9 false true false false) := by
  refine returnsInHanded_of_change_and (C := Tryd.checked) (X := fun w _ => laidMetH Tryd.prog Rows.insertKnownRow.laid w) (fun _ _ _ hh h => h.of_heap hh) own started (by kernel_rfl) Tryd.func9
    (ChangeSpec.witness_shaped (enc := enc) (C := Tryd.checked) (os := os) (X := fun w _ => laidMetH Tryd.prog Rows.insertKnownRow.laid w) false (World.doorLaid Tryd.prog 400 os) #[] 8 rfl (World.shaped_of_RefB (by kernel_rfl) (by kernel_rfl)) (by kernel_rfl) (by kernel_rfl) (by kernel_rfl) (door_met os _)) ?_
  intro W base args ds gs before hval0 hW _ _ hL _
  have hval : ∀ (j : Nat) t v, Tryd.f9.params[j]? = some t → args[j]? = some v → Value.okWide Tryd.prog W .any base t v := hval0
  have hW' := hW
  obtain ⟨p, q, hA0, hV, rfl, hfz, hnd⟩ := hW
  have hA : DataW.TrodAll enc Tryd.prog W 0 (fun _ => true) true Tryd.f9.params.toList args.toList ds p := hA0
  rw [Tryd.params9] at hA
  obtain ⟨rfl, rfl, rfl⟩ := trodAll_none hA
  obtain ⟨rfl, rfl⟩ := trodVars_none hV
  exact (insertKnown_any W (sg_of_laid hL)).mono fun e W' ⟨he, hb⟩ => ⟨_, he, Close.law_post laidOut (by kernel_rfl) rfl (by kernel_rfl) Tryd.underlying4 hW' rfl hb⟩

theorem over : Rows.InsertKnownSaid :=
  OpenClaim.holds_of_wide 9 Tryd.f9 rfl rfl rfl rfl rfl rfl rfl ⟨rfl, rfl, rfl, rfl, rfl⟩ rfl rfl rfl rfl rfl (by kernel_rfl) Tryd.func9 (by kernel_rfl)
    (of_decide_eq_true (by kernel_rfl)) (by unfold Func.isWrapper; first | (rw [if_pos (by decide +kernel)]; kernel_rfl) | (rw [if_neg (by decide +kernel)]; exact ⟨rfl, rfl⟩))
    (fun os started H enc _ => lifted os started H enc)

theorem proved : Rows.InsertKnownCardSaid :=
  Claim7.holds_tied_plain_at .later [] [.data] true (true, "dca3abdf66be07088c0781a6a398024b4bbc5edc5f89c4576e263e6a660c2fed") false
    over (fun _ h => by cases h) (by kernel_rfl) (fun _ h => by cases h) insertKnown_row_tie rfl ⟨rfl, rfl⟩ (by kernel_rfl) rfl
    (fun f fn hf hfn => by
      obtain rfl : f = 9 := Option.some.inj ((show Tryd.prog.funcNamed "consign/consignlaw11.InsertKnown" = some 9 by kernel_rfl).symm.trans hf) |>.symm
      obtain rfl : fn = Tryd.f9 := (Option.some.inj (Tryd.func9.symm.trans hfn)).symm
      exact ⟨by kernel_rfl, fun j t ht => by
        rw [Tryd.params9] at ht
        simp at ht⟩)
    (by kernel_rfl)
#print axioms proved

end Go.Proofs.YthjdacbgcpldjaaDoor.insertKnown

/-
  FeasKnown returns true: the examples; which fault comes first; what is just met; rows that are none, or too long.
-/
import Derived.Test.YteefkijmodcijaaDoorFeasWorks2
import Derived.Test.YteefkijmodcijaaDoorRouteRefChk
namespace Go.Proofs.YteefkijmodcijaaDoor.Feas
open Go.RowKit Go.Sort Go.Proofs.YteefkijmodcijaaDoor.Mem Go.Proofs.YteefkijmodcijaaDoor.Route Go.Proofs.YteefkijmodcijaaDoor.When Go.Proofs.YteefkijmodcijaaDoor.Load Go.Proofs.YteefkijmodcijaaDoor.Float Go.Proofs.YteefkijmodcijaaDoor.Tail Go.Proofs.YteefkijmodcijaaDoor.Place
set_option linter.unusedVariables false

theorem owns_slice {W : World} {base size k : Nat} {e : TypeId} {v : Value} {xs : List Value} (h : W.ownsRow base e size v k xs) : ∃ x cap, v = .slice x k cap ∧ cap ≤ maxLen ∧ k ≤ cap := by
  obtain ⟨hl, ⟨rfl, rfl⟩ | ⟨g, cap, cur, rfl, hb, hg, hc1, hc2, hs, ht⟩⟩ := h
  · exact ⟨none, 0, rfl, Nat.zero_le _, Nat.le_refl _⟩
  · exact ⟨_, cap, rfl, hc2, hc1⟩
def flatQ (t : List Rq) : List Value := (t.map rqV).flatten
theorem flatQ_snoc (t : List Rq) (q : Rq) : flatQ (t ++ [q]) = flatQ t ++ [.int .i64 q.fx, .int .i64 q.fy, .int .i64 q.tx, .int .i64 q.ty, .int .i64 q.pe, .int .i64 q.pl, .int .i64 q.de, .int .i64 q.dl, .int .i64 q.ld, .int .i64 q.sv] := by simp [flatQ, rqV]
theorem Rqs.of_owns {B : Nat} {W : World} {base n : Nat} {e : TypeId} {v : Value} {l : List Rq} (h : W.ownsRow base e 10 v n (flatQ l)) (hn : n = l.length) (hB : W.heap.size ≤ B) : Rqs B W v l :=
  RowB.of_owns h (by simpa using hn) (fun r hr => by obtain ⟨s, _, rfl⟩ := List.mem_map.1 hr; rfl) hB
theorem info_time : (Tryd.prog.info? 40).map (fun i => (i.zero, i.size, i.bytes)) = some (some (.agg #[.int .i64 0, .int .i64 0, .int .i64 0]), 3, 24) := by kernel_rfl
theorem info_request : (Tryd.prog.info? 62).map (fun i => (i.zero, i.size, i.bytes)) = some (some (.agg #[.int .i64 0, .int .i64 0, .int .i64 0, .int .i64 0, .int .i64 0, .int .i64 0, .int .i64 0, .int .i64 0, .int .i64 0, .int .i64 0]), 10, 80) := by kernel_rfl

def vB : Vh := ⟨0, 0, 0, 0, 40⟩
def vJ : Vh := ⟨0, 0, 5, 0, 20⟩
def q0 : Rq := ⟨0, 0, 0, 0, 0, 0, 0, 0, 0, 0⟩
def qM : Rq := ⟨5, 0, 9, 0, 0, 5, 0, 30, 3, 1⟩
def qA : Rq := ⟨0, 0, 0, 0, 0, 40, 0, 40, 1, 0⟩
def manyL : Nat → List (Int × Int)
  | 0 => []
  | k + 1 => manyL k ++ [((k : Int), 0), ((k : Int), 1)]
def allL (k : Nat) : List Rq := List.replicate k qA
theorem manyL_len : ∀ k, (manyL k).length = 2 * k
  | 0 => rfl
  | k + 1 => by rw [manyL, List.length_append, manyL_len k]; simp; omega
theorem allL_snoc (k : Nat) : allL (k + 1) = allL k ++ [qA] := List.replicate_succ'
def noTms (n : Nat) : List Tm := List.replicate n ⟨0, 0, 0⟩
theorem kK1 : faultV vB lC [qC, q0] = (2, 0, 0) := by decide +kernel
theorem kK2 : faultV vC lC [qC, q0] = (2, 1, 1) := by decide +kernel
theorem kK3 : faultV vJ lC [qM] = (0, 0, 0) := by decide +kernel
theorem kK4 : faultV vC [] [] = (0, 0, 0) := by decide +kernel
theorem kK5 : faultV vC [(0, 0), (0, 1), (0, 0)] tC = (8, 2, 2) := by decide +kernel
theorem kK6 : faultV vC [(0, 0), (0, 0)] tC = (8, 2, 1) := by decide +kernel
theorem kK7 : faultV vC [(0, 0), (0, 2)] tC = (8, 2, 1) := by decide +kernel
theorem kK8 : faultV vC [(1, 0)] tC = (8, 2, 0) := by decide +kernel
theorem kK9 : faultV vC [(-1, 0)] tC = (8, 2, 0) := by decide +kernel
theorem kKA : faultV vC (manyL 9) (allL 9) = (11, 2, 16) := by decide +kernel
theorem kKB : faultV vC ((manyL 9).take 16) (allL 9) = (0, 0, 0) := by decide +kernel
theorem kKC : rightB vC (manyL 9) (allL 9) (noTms 18) = false := by decide +kernel
theorem kKD : rightB vC ((manyL 9).take 16) (allL 9) (noTms 16) = true := by decide +kernel
theorem kKE : rightB vC [] tC [] = true := by decide +kernel
theorem kKF : rightB vB [] tC [] = false := by decide +kernel
theorem Rqs.laid2 {W : World} {g : Nat} {q r : Rq} {cs : Array Value} (h : At W g 62 cs) (hc : cs.toList = rqV q ++ rqV r) : Rqs W.heap.size W (.slice (some ⟨g, 0, none⟩) 2 2) [q, r] :=
  RowB.of_at (m := 10) (rows := [rqV q, rqV r]) h h.inside (fun r hr => by simp at hr; rcases hr with rfl | rfl <;> rfl) (fun i u hu => by
    have : cs.toList[i]? = some u := by rw [hc]; simpa using hu
    simpa using this) (Nat.le_refl _) (by decide)
theorem Row.laidN {W : World} {g : Nat} {l : List (Int × Int)} {k : Nat} {cs : Array Value} (h : At W g 65 cs) (hc : cs.toList = flatS l) (hk : l.length = k) (hm : k ≤ 1000) : Row W.heap.size W (.slice (some ⟨g, 0, none⟩) k k) l := by
  subst hk
  have := RowB.of_at (m := 2) (B := W.heap.size) (cap := l.length) (rows := l.map stV) h h.inside (fun r hr => by obtain ⟨s, _, rfl⟩ := List.mem_map.1 hr; rfl) (fun i u hu => by
    have : cs.toList[i]? = some u := by rw [hc]; exact hu
    simpa using this) (by simp) (by unfold maxLen; omega)
  rw [List.length_map] at this
  exact this

theorem tms_zeros {W : World} {n k : Nat} {t : TypeId} {cs : Array Value} (hcs : cs.toList = ((noTms k).map tmC).flatten) (hn : n = W.heap.size) (hm : k ≤ 1000 := by decide) : Tms (W.alloc (.cells cs t)).heap.size (W.alloc (.cells cs t)) (.slice (some ⟨n, 0, none⟩) k k) (noTms k) := by
  subst hn
  have := RowB.of_at (m := 3) (B := (W.alloc (.cells cs t)).heap.size) (cap := k) (rows := (noTms k).map tmC) (At.new W t cs) (by simp) (fun r hr => by obtain ⟨s, _, rfl⟩ := List.mem_map.1 hr; rfl) (fun i u hu => by
    have : cs.toList[i]? = some u := by rw [hcs]; exact hu
    simpa using this) (by simp [noTms]) (by unfold maxLen; omega)
  rw [List.length_map, show (noTms k).length = k by simp [noTms]] at this
  exact this

theorem made_tms18 : ∃ cs : Array Value, cs.toList = ((noTms 18).map tmC).flatten ∧ ∀ W, (Instr.makeSlice 30 (.int .i64 18) (.int .i64 18)).run Tryd.prog W = .ok (.slice (some ⟨W.heap.size, 0, none⟩) 18 18) (W.alloc (.cells cs 40)) := by
  obtain ⟨i, hi, hz, hs, hb⟩ := info_parts info_time
  refine ⟨madeCells (Value.agg #[.int .i64 0, .int .i64 0, .int .i64 0]).cells (18 * 3), by kernel_rfl, fun W => ?_⟩
  have h := run_makeSlice (P := Tryd.prog) W 30 40 i _ Tryd.underlying30 hi hz .i64 .i64 18 18 (by omega) (by omega) (by rw [hs]; decide) (by rw [hb]; decide) (by omega)
  rw [hs] at h
  exact h
theorem made_tms16 : ∃ cs : Array Value, cs.toList = ((noTms 16).map tmC).flatten ∧ ∀ W, (Instr.makeSlice 30 (.int .i64 16) (.int .i64 16)).run Tryd.prog W = .ok (.slice (some ⟨W.heap.size, 0, none⟩) 16 16) (W.alloc (.cells cs 40)) := by
  obtain ⟨i, hi, hz, hs, hb⟩ := info_parts info_time
  refine ⟨madeCells (Value.agg #[.int .i64 0, .int .i64 0, .int .i64 0]).cells (16 * 3), by kernel_rfl, fun W => ?_⟩
  have h := run_makeSlice (P := Tryd.prog) W 30 40 i _ Tryd.underlying30 hi hz .i64 .i64 16 16 (by omega) (by omega) (by rw [hs]; decide) (by rw [hb]; decide) (by omega)
  rw [hs] at h
  exact h

/-- The two rows that the loop makes. -/
def LoopK (M : Nat) (w5 : World) (k : Nat) (u11 u12 : Value) (W : World) : Prop :=
  (∃ x c, u11 = .slice x (2 * k) c) ∧ (∃ x c, u12 = .slice x k c) ∧ W.ownsRow M 65 2 u11 (2 * k) (flatS (manyL k)) ∧ W.ownsRow M 62 10 u12 k (flatQ (allL k)) ∧ Below M w5 W
theorem LoopK.mk_ {M : Nat} {w5 : World} {k : Nat} {x y : Option Addr} {a b c d : Nat} {W : World} (ha : a = 2 * k) (hb : b = k) (h1 : W.ownsRow M 65 2 (.slice x a c) a (flatS (manyL k))) (h2 : W.ownsRow M 62 10 (.slice y b d) b (flatQ (allL k))) (h3 : Below M w5 W) : LoopK M w5 k (.slice x a c) (.slice y b d) W := by
  subst ha hb
  exact ⟨⟨_, _, rfl⟩, ⟨_, _, rfl⟩, h1, h2, h3⟩
theorem rowAt {W : World} {b s n k : Nat} {e : TypeId} {v : Value} {xs : List Value} (h : W.ownsRow b e s v n xs) (hv : v.ownBlock = some k) : ∃ cs, At W k e cs := by
  obtain ⟨hl, ⟨rfl, h0⟩ | ⟨g, cap, cur, rfl, hb, hg, hc1, hc2, hs, ht⟩⟩ := h
  · cases hv
  · simp only [Value.ownBlock, Option.some.injEq] at hv
    subst hv
    exact ⟨cur, hg⟩
theorem rowApart {W : World} {b b' : Nat} {e e' : TypeId} {s s' : Nat} {v v' : Value} {n n' : Nat} {xs xs' : List Value} (h : W.ownsRow b e s v n xs) (h' : W.ownsRow b' e' s' v' n' xs') (ht : e ≠ e') : v.ownBlock = none ∨ v.ownBlock ≠ v'.ownBlock := by
  cases hv : v.ownBlock with
  | none => exact Or.inl rfl
  | some k =>
    refine Or.inr (fun he => ?_)
    obtain ⟨cs, h1⟩ := rowAt h hv
    obtain ⟨cs', h2⟩ := rowAt h' he.symm
    unfold At at h1 h2
    rw [h1] at h2
    simp only [Option.some.injEq, Obj.cells.injEq] at h2
    exact ht h2.2.1

set_option maxRecDepth 100000 in
set_option maxHeartbeats 8000000 in
theorem known_any (w : World) (hg : Hd w) : Calls Tryd.prog 10 #[] w fun e w' => e = .returned (.bool true) ∧ Below w.heap.size w w' := by
  obtain ⟨iS, hiS, hS0, hS1, hS2⟩ := info_parts info_stop
  obtain ⟨iQ, hiQ, hQ0, hQ1, hQ2⟩ := info_parts info_request
  go_enter Tryd.func10, Tryd.ntmps10
  go_wp2_with fail
  refine (chapter_any w).mono ?_
  rintro e w1 ⟨⟨gl, gt, rfl, hL, hT⟩, hB1⟩
  obtain ⟨q, hq⟩ : ∃ q, w1.heap.size = q := ⟨_, rfl⟩
  obtain ⟨w2, hw2⟩ : ∃ w2, w1.alloc (.cells #[.int .i64 0, .int .i64 0, .int .i64 5, .int .i64 0, .int .i64 40] 34) = w2 := ⟨_, rfl⟩
  have hV : At w2 q 34 #[.int .i64 0, .int .i64 0, .int .i64 5, .int .i64 0, .int .i64 40] := by rw [← hw2]; exact At.new_ _ _ _ hq.symm
  have hb2 : Below w1.heap.size w1 w2 := by rw [← hw2]; exact (Below.refl _ _).alloc (Nat.le_refl _) _
  have hL2 := hL.keep hb2 hL.inside
  have hT2 := hT.keep hb2 hT.inside
  have hB2 := hB1.trans (hb2.mono hB1.size)
  have hlq : gl < q := by have := hL.inside; omega
  have htq : gt < q := by have := hT.inside; omega
  have hqw : w.heap.size ≤ q := by have := hB1.size; omega
  have hw2' := Lib.hid hw2
  have hq' := Lib.hid hq
  have hg2 := hg.keep hB2 hg.pos
  have hgw := Lib.hid hg
  clear hL hT hB1 hb2 hw2 hq hg
  go_upto_region 2 with fail
  simp only [hq'.out]
  rw [hw2'.out]
  have hqi := hV.inside
  go_cut [4, 5] from 20 to 21 (fun s4 s5 wx => ∃ gs gh, s4 = .pointer (some ⟨gs, 0, none⟩) ∧ s5 = .pointer (some ⟨gh, 0, none⟩) ∧ gs ≠ gh ∧ w2.heap.size ≤ gs ∧ w2.heap.size ≤ gh ∧ At wx gs 34 #[.int .i64 0, .int .i64 0, .int .i64 5, .int .i64 0, .int .i64 40] ∧ At wx gh 34 #[.int .i64 0, .int .i64 0, .int .i64 5, .int .i64 0, .int .i64 40] ∧ Below w2.heap.size w2 wx)
  case first =>
    have c0 := hV.cell 0
    have c1 := hV.cell 1
    have c2 := hV.cell 2
    have c3 := hV.cell 3
    have c4 := hV.cell 4
    simp at c0 c1 c2 c3 c4
    go_region
    all_goals
      go_wp2_with fail
      go_meet
      refine ⟨_, _, rfl, rfl, by simp, by simp, by simp, ?_, ?_, ?_⟩
      · repeat (first | with_reducible exact At.new_ _ _ _ rfl | (with_reducible refine At.new_ _ _ _ ?_; simp; done) | with_reducible refine At.far ?_ (by simp <;> omega) _ _ | with_reducible refine At.drew ?_ | with_reducible refine At.alloc ?_ _)
      · repeat (first | with_reducible exact At.new_ _ _ _ rfl | (with_reducible refine At.new_ _ _ _ ?_; simp; done) | with_reducible refine At.far ?_ (by simp <;> omega) _ _ | with_reducible refine At.drew ?_ | with_reducible refine At.alloc ?_ _)
      · repeat (first | with_reducible refine Below.drew ?_ | with_reducible refine Below.setCell ?_ (by simp) _ | with_reducible refine Below.alloc ?_ (by simp <;> omega) _ | with_reducible exact Below.refl _ _)
  case rest =>
    obtain ⟨gs, gh, rfl, rfl, hne, hgs, hgh, hS, hH, hb3⟩ := hcut
    obtain ⟨w3, rfl⟩ : ∃ w3, w3 = wc := ⟨_, rfl⟩
    have hV3 := hV.keep hb3 hqi
    have hL3 := hL2.keep hb3 hL2.inside
    have hT3 := hT2.keep hb3 hT2.inside
    have hB3 := hB2.trans (hb3.mono hB2.size)
    have hg3 := hg2.keep hb3 hg2.pos
    have hgp := hg2.pos
    have hgpw : 1 < w2.heap.size := hgp
    clear hb3 hV hL2 hT2 hB2 hg2
    have s2 := hS.cell 2
    have sf := hS.free
    have h4 := hH.cell 4
    have hf := hH.free
    simp at s2 h4
    have hltq : q < gs ∧ q < gh := by omega
    go_upto_region 5 with fail
    have hS4 : At ((w3.setCell ⟨gs, 2, none⟩ (.int .i64 0)).setCell ⟨gh, 4, none⟩ (.int .i64 20)) gs 34 #[.int .i64 0, .int .i64 0, .int .i64 0, .int .i64 0, .int .i64 40] := by simpa using (hS.put 2 (.int .i64 0)).far hne 4 (.int .i64 20)
    have hH4 : At ((w3.setCell ⟨gs, 2, none⟩ (.int .i64 0)).setCell ⟨gh, 4, none⟩ (.int .i64 20)) gh 34 #[.int .i64 0, .int .i64 0, .int .i64 5, .int .i64 0, .int .i64 20] := by simpa using (hH.far hne.symm 2 (.int .i64 0)).put 4 (.int .i64 20)
    have hV4 := (hV3.far (b := gs) (by omega) 2 (.int .i64 0)).far (b := gh) (by omega) 4 (.int .i64 20)
    have hL4 := (hL3.far (b := gs) (by omega) 2 (.int .i64 0)).far (b := gh) (by omega) 4 (.int .i64 20)
    have hT4 := (hT3.far (b := gs) (by omega) 2 (.int .i64 0)).far (b := gh) (by omega) 4 (.int .i64 20)
    have hB4 := (hB3.setCell (p := ⟨gs, 2, none⟩) (by simp; omega) (.int .i64 0)).setCell (p := ⟨gh, 4, none⟩) (by simp; omega) (.int .i64 20)
    have hg4 : Hd ((w3.setCell ⟨gs, 2, none⟩ (.int .i64 0)).setCell ⟨gh, 4, none⟩ (.int .i64 20)) := hg3.keep (((Below.refl w2.heap.size w3).setCell (p := ⟨gs, 2, none⟩) hgs _).setCell (p := ⟨gh, 4, none⟩) hgh _) hgpw
    clear s2 sf h4 hf hV3 hL3 hT3 hB3 hg3 hS hH
    generalize (w3.setCell ⟨gs, 2, none⟩ (.int .i64 0)).setCell ⟨gh, 4, none⟩ (.int .i64 20) = w4 at *
    have t0 := hT4.cell 0
    have t1 := hT4.cell 1
    have t2 := hT4.cell 2
    have t3 := hT4.cell 3
    have t4 := hT4.cell 4
    have t5 := hT4.cell 5
    have t6 := hT4.cell 6
    have t7 := hT4.cell 7
    have t8 := hT4.cell 8
    have t9 := hT4.cell 9
    simp at t0 t1 t2 t3 t4 t5 t6 t7 t8 t9
    go_upto_region 10 with fail
    obtain ⟨n, hn⟩ : ∃ n, w4.heap.size = n := ⟨_, rfl⟩
    obtain ⟨w5, hw5⟩ : ∃ w5, (((((w4.alloc (.cells #[.int .i64 5, .int .i64 0, .int .i64 9, .int .i64 0, .int .i64 0, .int .i64 20, .int .i64 0, .int .i64 30, .int .i64 3, .int .i64 1, .int .i64 0, .int .i64 0, .int .i64 0, .int .i64 0, .int .i64 0, .int .i64 0, .int .i64 0, .int .i64 0, .int .i64 0, .int .i64 0] 62)).alloc (.cells #[.int .i64 0, .int .i64 0, .int .i64 0, .int .i64 1, .int .i64 0, .int .i64 0] 65)).alloc (.cells #[.int .i64 0, .int .i64 0, .int .i64 0, .int .i64 0] 65)).alloc (.cells #[.int .i64 0, .int .i64 0, .int .i64 0, .int .i64 2] 65)).alloc (.cells #[.int .i64 1, .int .i64 0] 65)) = w5 := ⟨_, rfl⟩
    have hRq : At w5 (n) 62 #[.int .i64 5, .int .i64 0, .int .i64 9, .int .i64 0, .int .i64 0, .int .i64 20, .int .i64 0, .int .i64 30, .int .i64 3, .int .i64 1, .int .i64 0, .int .i64 0, .int .i64 0, .int .i64 0, .int .i64 0, .int .i64 0, .int .i64 0, .int .i64 0, .int .i64 0, .int .i64 0] := by rw [← hw5]; exact ((((At.new_ _ _ _ hn.symm).alloc _).alloc _).alloc _).alloc _
    have hTw : At w5 (n + 1) 65 #[.int .i64 0, .int .i64 0, .int .i64 0, .int .i64 1, .int .i64 0, .int .i64 0] := by rw [← hw5]; exact (((At.new_ _ _ _ (by simp [hn])).alloc _).alloc _).alloc _
    have hAg : At w5 (n + 1 + 1) 65 #[.int .i64 0, .int .i64 0, .int .i64 0, .int .i64 0] := by rw [← hw5]; exact ((At.new_ _ _ _ (by simp [hn])).alloc _).alloc _
    have hOd : At w5 (n + 1 + 1 + 1) 65 #[.int .i64 0, .int .i64 0, .int .i64 0, .int .i64 2] := by rw [← hw5]; exact (At.new_ _ _ _ (by simp [hn])).alloc _
    have hNo : At w5 (n + 1 + 1 + 1 + 1) 65 #[.int .i64 1, .int .i64 0] := by rw [← hw5]; exact At.new_ _ _ _ (by simp [hn])
    have hb5 : Below w4.heap.size w4 w5 := by rw [← hw5]; exact (((((Below.refl _ _).alloc (Nat.le_refl _) _).alloc (by simp <;> omega) _).alloc (by simp <;> omega) _).alloc (by simp <;> omega) _).alloc (by simp <;> omega) _
    have hs5 : w5.heap.size = n + 5 := by rw [← hw5]; simp [hn]
    have hs5' := Lib.hid hs5
    simp only [hn]
    rw [hw5]
    have hS5 := hS4.keep hb5 hS4.inside
    have hH5 := hH4.keep hb5 hH4.inside
    have hV5 := hV4.keep hb5 hV4.inside
    have hL5 := hL4.keep hb5 hL4.inside
    have hT5 := hT4.keep hb5 hT4.inside
    have hB5 := hB4.trans (hb5.mono hB4.size)
    have hg5 := hg4.on hb5
    clear t0 t1 t2 t3 t4 t5 t6 t7 t8 t9 hS4 hH4 hV4 hL4 hT4 hB4 hg4 hb5 hw5 hn hw2' hq' hne hgs hgh hltq hgp hgpw hqi hs5
    obtain ⟨M, hM⟩ : ∃ M, w5.heap.size = M := ⟨_, rfl⟩
    have hM' := Lib.hid hM
    have hI0 : LoopK M w5 0 (.slice none 0 0) (.slice none 0 0) w5 := LoopK.mk_ rfl rfl (World.ownsRow_nil _ _ _ _) (World.ownsRow_nil _ _ _ _) (Below.refl _ _)
    clear hM
    go_wp2
    go_loopw [11, 12, 13] (fun a b i wr => ∃ k : Nat, i = .int .i64 k ∧ k ≤ 9 ∧ LoopK M w5 k a b wr) (fun _ _ i _ => 9 - (intOf i).toNat)
    case atStart => exact ⟨0, rfl, Nat.zero_le _, hI0⟩
    case round =>
      obtain ⟨k, rfl, hk, ⟨x1, c1, rfl⟩, ⟨x2, c2, rfl⟩, hm, ha, hbw⟩ := hrel
      clear hI0
      have hMs : M ≤ wr.heap.size := by have := hbw.size; have := hM'.out; omega
      by_cases hlt : k < 9
      · have hlt2 : (k : Int) < 9 := by omega
        have hm' := Lib.hid hm
        have hbw' := Lib.hid hbw
        have har := Lib.hid (owns_row ha)
        have hmr := Lib.hid (owns_row hm)
        have hap := Lib.hid (rowApart hm ha (by decide))
        have hpa := Lib.hid (rowApart ha hm (by decide))
        clear hm hbw
        go_upto_region 16 with (at_builtin; refine wpList_append_own _ rfl _ _ 29 rfl M 62 iQ (.agg #[.int .i64 0, .int .i64 0, .int .i64 0, .int .i64 0, .int .i64 0, .int .i64 0, .int .i64 0, .int .i64 0, .int .i64 0, .int .i64 0]) 10 80 Tryd.underlying29 hiQ hQ0 hQ1 hQ2 rfl (by decide) _ _ _ rfl (ha.alloc _) ⟨wr.heap.size, 0, none⟩ 1 1 [.int .i64 0, .int .i64 0, .int .i64 0, .int .i64 0, .int .i64 0, .int .i64 40, .int .i64 0, .int .i64 40, .int .i64 1, .int .i64 0] rfl rfl (World.news_of_block (cs := #[.int .i64 0, .int .i64 0, .int .i64 0, .int .i64 0, .int .i64 0, .int .i64 40, .int .i64 0, .int .i64 40, .int .i64 1, .int .i64 0]) (t := 62) (fr := (0, 0)) (heap_alloc_new wr _)) (by simp [Value.oneCell']) (by unfold maxLen; omega) (by omega) (by simp; omega) ?_; intro v7 w7 hown7 hgrow7 hnil7; obtain ⟨x7, c7, rfl, _, _⟩ := owns_slice hown7)
        have hm7 : w7.ownsRow M 65 2 (.slice x1 (2 * k) c1) (2 * k) (flatS (manyL k)) := (hm'.out.alloc _).kept hgrow7 hap.out
        have hB7 : Below M w5 w7 := (hbw'.out.alloc hMs _).grown hgrow7 (by simp; omega) (fun r e => (har.out r e))
        have hM7 : M ≤ w7.heap.size := by have := hB7.size; have := hM'.out; omega
        have hmr7 := Lib.hid (owns_row hm7)
        have hap7 := Lib.hid (rowApart hown7 hm7 (by decide))
        have ho7 := Lib.hid hown7
        have hB7' := Lib.hid hB7
        clear hown7 hgrow7 hnil7 ha hB7
        go_upto_region 14 with (at_builtin; refine wpList_append_own _ rfl _ _ 28 rfl M 65 iS (.agg #[.int .i64 0, .int .i64 0]) 2 16 Tryd.underlying28 hiS hS0 hS1 hS2 rfl (by decide) _ _ _ rfl (hm7.alloc _) ⟨w7.heap.size, 0, none⟩ 2 2 [.int .i64 k, .int .i64 0, .int .i64 k, .int .i64 1] rfl rfl (World.news_of_block (cs := #[.int .i64 k, .int .i64 0, .int .i64 k, .int .i64 1]) (t := 65) (fr := (0, 0)) (heap_alloc_new w7 _)) (by simp [Value.oneCell']) (by unfold maxLen; omega) (by omega) (by simp; omega) ?_; intro v8 w8 hown8 hgrow8 hnil8; obtain ⟨x8, c8, rfl, _, _⟩ := owns_slice hown8)
        have ho8 : w8.ownsRow M 62 10 (.slice x7 (k + 1) c7) (k + 1) (flatQ (allL k) ++ [.int .i64 0, .int .i64 0, .int .i64 0, .int .i64 0, .int .i64 0, .int .i64 40, .int .i64 0, .int .i64 40, .int .i64 1, .int .i64 0]) := (ho7.out.alloc _).kept hgrow8 hap7.out
        have hB8 : Below M w5 w8 := (hB7'.out.alloc hM7 _).grown hgrow8 (by simp; omega) (fun r e => (hmr7.out r e))
        have hRel : LoopK M w5 (k + 1) (.slice x8 (2 * k + 2) c8) (.slice x7 (k + 1) c7) w8 := LoopK.mk_ (by omega) rfl (by rw [manyL, flatS_append]; exact hown8) (by rw [allL_snoc, flatQ_snoc]; exact ho8) hB8
        clear hown8 hgrow8 hnil8 hm7 ho8 hB8
        go_wp2
        go_roundw
        case rel => exact ⟨k + 1, by go_num, hlt, hRel⟩
        case measure => simp [intOf]; omega
      · obtain rfl : k = 9 := by omega
        simp only [show ((9 : Nat) : Int) = 9 from rfl, show 2 * 9 = 18 from rfl] at hm ⊢
        obtain ⟨_, _, ec, hcm, hc18⟩ := owns_slice hm
        obtain ⟨_, _, rfl⟩ := Value.slice.inj ec
        have hc16 : 16 ≤ c1 := by omega
        have hc16i : (16 : Int) ≤ (c1 : Int) := by omega
        unfold maxLen at hcm
        obtain ⟨cs18, hcs18, hmk18⟩ := made_tms18
        obtain ⟨cs16, hcs16, hmk16⟩ := made_tms16
        have hMn := Lib.hid (Row.of_owns hm (manyL_len 9).symm (Nat.le_refl _))
        have hAl := Lib.hid (Rqs.of_owns ha rfl (Nat.le_refl _))
        have hEr : Below w5.heap.size w5 wr := by rw [hM'.out]; exact hbw
        have hTr := hT5.keep hEr hT5.inside
        clear hm ha hbw
        have t0 := hTr.cell 0
        have t1 := hTr.cell 1
        have t2 := hTr.cell 2
        have t3 := hTr.cell 3
        have t4 := hTr.cell 4
        have t5 := hTr.cell 5
        have t6 := hTr.cell 6
        have t7 := hTr.cell 7
        have t8 := hTr.cell 8
        have t9 := hTr.cell 9
        simp at t0 t1 t2 t3 t4 t5 t6 t7 t8 t9
        go_upto_region 19 with fail
        obtain ⟨gm, hgm⟩ : ∃ gm, wr.heap.size = gm := ⟨_, rfl⟩
        obtain ⟨w9, hw9⟩ : ∃ w9, wr.alloc (.cells #[.int .i64 5, .int .i64 0, .int .i64 9, .int .i64 0, .int .i64 0, .int .i64 5, .int .i64 0, .int .i64 30, .int .i64 3, .int .i64 1] 62) = w9 := ⟨_, rfl⟩
        have hMe9 : At w9 gm 62 #[.int .i64 5, .int .i64 0, .int .i64 9, .int .i64 0, .int .i64 0, .int .i64 5, .int .i64 0, .int .i64 30, .int .i64 3, .int .i64 1] := by rw [← hw9]; exact At.new_ _ _ _ hgm.symm
        have hb9 : Below wr.heap.size wr w9 := by rw [← hw9]; exact (Below.refl _ _).alloc (Nat.le_refl _) _
        simp only [hgm]
        rw [hw9]
        have hMn9 := Lib.hid (hMn.out.on hb9)
        have hAl9 := Lib.hid (RowB.on hAl.out hb9)
        have hE9 := hEr.trans (hb9.mono hEr.size)
        have hS9 := hS5.keep hE9 hS5.inside
        have hH9 := hH5.keep hE9 hH5.inside
        have hV9 := hV5.keep hE9 hV5.inside
        have hL9 := hL5.keep hE9 hL5.inside
        have hT9 := hT5.keep hE9 hT5.inside
        have hRq9 := hRq.keep hE9 hRq.inside
        have hTw9 := hTw.keep hE9 hTw.inside
        have hAg9 := hAg.keep hE9 hAg.inside
        have hOd9 := hOd.keep hE9 hOd.inside
        have hNo9 := hNo.keep hE9 hNo.inside
        have hB9 := hB5.trans (hE9.mono hB5.size)
        have hg9 := hg5.on hE9
        have hg9' := Lib.hid hg9
        clear hg9 t0 t1 t2 t3 t4 t5 t6 t7 t8 t9 hTr hMn hAl hEr hb9 hw9 hgm hE9 hS5 hH5 hV5 hL5 hT5 hRq hTw hAg hOd hNo hB5 hg5 hM' hs5' hlt
        have hE0 : Below w9.heap.size w9 w9 := Below.refl _ _
        have hp := hS9.keep hE0 hS9.inside
        have c0 := hp.cell 0
        have c1 := hp.cell 1
        have c2 := hp.cell 2
        have c3 := hp.cell 3
        have c4 := hp.cell 4
        simp at c0 c1 c2 c3 c4
        clear hp
        go_wp2_with fail
        refine (Check_any vB _ _ lC [qC, q0] (by decide) (nums_of (by decide +kernel)) _ (Row.laid2 (hL9.keep hE0 hL9.inside)) (Rqs.laid2 (q := qC) (r := q0) (hRq9.keep hE0 hRq9.inside) rfl)).mono ?_
        clear c0 c1 c2 c3 c4
        rintro e y1 ⟨⟨u, rfl, hu⟩, hb⟩
        rw [kK1] at hu
        have hE1 := hE0.trans (hb.mono hE0.size)
        clear hb
        have hu' := Lib.hid hu
        clear hu
        go_wp2_with fail
        refine (told_yes _ 2 0 0 _ (hg9'.out.on hE1) hu'.out (by decide)).mono ?_
        rintro e y2 ⟨rfl, hb⟩
        have hE2 := hE1.trans (hb.mono hE1.size)
        clear hb hu' hE1
        have hp := hV9.keep hE2 hV9.inside
        have c0 := hp.cell 0
        have c1 := hp.cell 1
        have c2 := hp.cell 2
        have c3 := hp.cell 3
        have c4 := hp.cell 4
        simp at c0 c1 c2 c3 c4
        clear hp
        go_wp2_with fail
        refine (Check_any vC _ _ lC [qC, q0] (by decide) (nums_of (by decide +kernel)) _ (Row.laid2 (hL9.keep hE2 hL9.inside)) (Rqs.laid2 (q := qC) (r := q0) (hRq9.keep hE2 hRq9.inside) rfl)).mono ?_
        clear c0 c1 c2 c3 c4
        rintro e y3 ⟨⟨u, rfl, hu⟩, hb⟩
        rw [kK2] at hu
        have hE3 := hE2.trans (hb.mono hE2.size)
        clear hb
        have hu' := Lib.hid hu
        clear hu
        go_wp2_with fail
        refine (told_yes _ 2 1 1 _ (hg9'.out.on hE3) hu'.out (by decide)).mono ?_
        rintro e y4 ⟨rfl, hb⟩
        have hE4 := hE3.trans (hb.mono hE3.size)
        clear hb hu' hE3
        have hp := hH9.keep hE4 hH9.inside
        have c0 := hp.cell 0
        have c1 := hp.cell 1
        have c2 := hp.cell 2
        have c3 := hp.cell 3
        have c4 := hp.cell 4
        simp at c0 c1 c2 c3 c4
        clear hp
        go_wp2_with fail
        refine (Check_any vJ _ _ lC [qM] (by decide) (nums_of (by decide +kernel)) _ (Row.laid2 (hL9.keep hE4 hL9.inside)) (Rqs.laid1 (q := qM) (hMe9.keep hE4 hMe9.inside))).mono ?_
        clear c0 c1 c2 c3 c4
        rintro e y5 ⟨⟨u, rfl, hu⟩, hb⟩
        rw [kK3] at hu
        have hE5 := hE4.trans (hb.mono hE4.size)
        clear hb
        obtain rfl := errAt_no hu rfl
        clear hu
        have hp := hV9.keep hE5 hV9.inside
        have c0 := hp.cell 0
        have c1 := hp.cell 1
        have c2 := hp.cell 2
        have c3 := hp.cell 3
        have c4 := hp.cell 4
        simp at c0 c1 c2 c3 c4
        clear hp
        go_wp2_with fail
        refine (Check_any vC _ _ [] [] (by decide) (nums_of (by decide +kernel)) _ (RowB.nil _ _ _) (RowB.nil _ _ _)).mono ?_
        clear c0 c1 c2 c3 c4
        rintro e y6 ⟨⟨u, rfl, hu⟩, hb⟩
        rw [kK4] at hu
        have hE6 := hE5.trans (hb.mono hE5.size)
        clear hb
        obtain rfl := errAt_no hu rfl
        clear hu
        have hp := hV9.keep hE6 hV9.inside
        have c0 := hp.cell 0
        have c1 := hp.cell 1
        have c2 := hp.cell 2
        have c3 := hp.cell 3
        have c4 := hp.cell 4
        simp at c0 c1 c2 c3 c4
        clear hp
        go_wp2_with fail
        refine (Check_any vC _ _ [(0, 0), (0, 1), (0, 0)] tC (by decide) (nums_of (by decide +kernel)) _ (Row.laidN (l := [(0, 0), (0, 1), (0, 0)]) (hTw9.keep hE6 hTw9.inside) rfl rfl (by decide)) (Rqs.laid1 (q := qC) (hT9.keep hE6 hT9.inside))).mono ?_
        clear c0 c1 c2 c3 c4
        rintro e y7 ⟨⟨u, rfl, hu⟩, hb⟩
        rw [kK5] at hu
        have hE7 := hE6.trans (hb.mono hE6.size)
        clear hb
        have hu' := Lib.hid hu
        clear hu
        go_wp2_with fail
        refine (told_yes _ 8 2 2 _ (hg9'.out.on hE7) hu'.out (by decide)).mono ?_
        rintro e y8 ⟨rfl, hb⟩
        have hE8 := hE7.trans (hb.mono hE7.size)
        clear hb hu' hE7
        have hp := hV9.keep hE8 hV9.inside
        have c0 := hp.cell 0
        have c1 := hp.cell 1
        have c2 := hp.cell 2
        have c3 := hp.cell 3
        have c4 := hp.cell 4
        simp at c0 c1 c2 c3 c4
        clear hp
        go_wp2_with fail
        refine (Check_any vC _ _ [(0, 0), (0, 0)] tC (by decide) (nums_of (by decide +kernel)) _ (Row.laidN (l := [(0, 0), (0, 0)]) (hAg9.keep hE8 hAg9.inside) rfl rfl (by decide)) (Rqs.laid1 (q := qC) (hT9.keep hE8 hT9.inside))).mono ?_
        clear c0 c1 c2 c3 c4
        rintro e y9 ⟨⟨u, rfl, hu⟩, hb⟩
        rw [kK6] at hu
        have hE9 := hE8.trans (hb.mono hE8.size)
        clear hb
        have hu' := Lib.hid hu
        clear hu
        go_wp2_with fail
        refine (told_yes _ 8 2 1 _ (hg9'.out.on hE9) hu'.out (by decide)).mono ?_
        rintro e y10 ⟨rfl, hb⟩
        have hE10 := hE9.trans (hb.mono hE9.size)
        clear hb hu' hE9
        have hp := hV9.keep hE10 hV9.inside
        have c0 := hp.cell 0
        have c1 := hp.cell 1
        have c2 := hp.cell 2
        have c3 := hp.cell 3
        have c4 := hp.cell 4
        simp at c0 c1 c2 c3 c4
        clear hp
        go_wp2_with fail
        refine (Check_any vC _ _ [(0, 0), (0, 2)] tC (by decide) (nums_of (by decide +kernel)) _ (Row.laidN (l := [(0, 0), (0, 2)]) (hOd9.keep hE10 hOd9.inside) rfl rfl (by decide)) (Rqs.laid1 (q := qC) (hT9.keep hE10 hT9.inside))).mono ?_
        clear c0 c1 c2 c3 c4
        rintro e y11 ⟨⟨u, rfl, hu⟩, hb⟩
        rw [kK7] at hu
        have hE11 := hE10.trans (hb.mono hE10.size)
        clear hb
        have hu' := Lib.hid hu
        clear hu
        go_wp2_with fail
        refine (told_yes _ 8 2 1 _ (hg9'.out.on hE11) hu'.out (by decide)).mono ?_
        rintro e y12 ⟨rfl, hb⟩
        have hE12 := hE11.trans (hb.mono hE11.size)
        clear hb hu' hE11
        have hp := hV9.keep hE12 hV9.inside
        have c0 := hp.cell 0
        have c1 := hp.cell 1
        have c2 := hp.cell 2
        have c3 := hp.cell 3
        have c4 := hp.cell 4
        simp at c0 c1 c2 c3 c4
        clear hp
        go_wp2_with fail
        refine (Check_any vC _ _ [(1, 0)] tC (by decide) (nums_of (by decide +kernel)) _ (Row.laidN (l := [(1, 0)]) (hNo9.keep hE12 hNo9.inside) rfl rfl (by decide)) (Rqs.laid1 (q := qC) (hT9.keep hE12 hT9.inside))).mono ?_
        clear c0 c1 c2 c3 c4
        rintro e y13 ⟨⟨u, rfl, hu⟩, hb⟩
        rw [kK8] at hu
        have hE13 := hE12.trans (hb.mono hE12.size)
        clear hb
        have hu' := Lib.hid hu
        clear hu
        go_wp2_with fail
        refine (told_yes _ 8 2 0 _ (hg9'.out.on hE13) hu'.out (by decide)).mono ?_
        rintro e y14 ⟨rfl, hb⟩
        have hE14 := hE13.trans (hb.mono hE13.size)
        clear hb hu' hE13
        have hp := hV9.keep hE14 hV9.inside
        have c0 := hp.cell 0
        have c1 := hp.cell 1
        have c2 := hp.cell 2
        have c3 := hp.cell 3
        have c4 := hp.cell 4
        simp at c0 c1 c2 c3 c4
        clear hp
        go_wp2_with fail
        have hEa : Below w9.heap.size w9 (y14.alloc (.cells #[.int .i64 (-1), .int .i64 0] 65)) := hE14.alloc hE14.size _
        refine (Check_any vC _ _ [(-1, 0)] tC (by decide) (nums_of (by decide +kernel)) _ (Row.laidN (l := [(-1, 0)]) (At.new _ _ _) rfl rfl (by decide)) (Rqs.laid1 (q := qC) (hT9.keep hEa hT9.inside))).mono ?_
        clear c0 c1 c2 c3 c4
        rintro e y15 ⟨⟨u, rfl, hu⟩, hb⟩
        rw [kK9] at hu
        have hE15 := hEa.trans (hb.mono hEa.size)
        clear hb hEa
        have hu' := Lib.hid hu
        clear hu
        go_wp2_with fail
        refine (told_yes _ 8 2 0 _ (hg9'.out.on hE15) hu'.out (by decide)).mono ?_
        rintro e y16 ⟨rfl, hb⟩
        have hE16 := hE15.trans (hb.mono hE15.size)
        clear hb hu' hE15
        go_upto_region 23 with fail
        have hVx := hV9.keep hE16 hV9.inside
        have hSx := hS9.keep hE16 hS9.inside
        have hTx := hT9.keep hE16 hT9.inside
        have hMx := Lib.hid (hMn9.out.on hE16)
        have hAx := Lib.hid (RowB.on hAl9.out hE16)
        have hgx := hg9'.out.on hE16
        have hBx := hB9.trans (hE16.mono hB9.size)
        clear hV9 hS9 hT9 hMn9 hAl9 hg9' hB9 hE16 hH9 hL9 hRq9 hTw9 hAg9 hOd9 hNo9 hMe9
        refine Sched.wp_region_sched 45 (fun W W' => Below W.heap.size W W') (VK [.val (.bool true), .val (.bool true), .val (.bool true), .val (.bool true), .val (.agg #[.int .i64 0, .int .i64 0, .int .i64 5, .int .i64 0, .int .i64 40]), .val (.slice x1 18 c1), .val (.slice x2 9 c2), .of (fun v w => ErrAt w v (11, 2, 16)) (fun h hb => ErrAt.on h hb), .val (.bool true), .val (.bool true), .val (.bool true), .val (.agg #[.int .i64 0, .int .i64 0, .int .i64 5, .int .i64 0, .int .i64 40]), .val (.slice x1 18 c1), .val (.slice x1 16 c1), .val (.slice x2 9 c2), .val (.nilIface), .val (.bool true), .val (.bool true), .val (.bool true), .val (.agg #[.int .i64 0, .int .i64 0, .int .i64 5, .int .i64 0, .int .i64 40]), .val (.slice x1 18 c1), .val (.slice x2 9 c2), .of (fun v w => Tms w.heap.size w v (noTms 18)) (fun h hb => RowB.on h hb), .val (.bool false), .val (.bool true), .val (.bool true), .val (.bool true), .val (.agg #[.int .i64 0, .int .i64 0, .int .i64 5, .int .i64 0, .int .i64 40]), .val (.slice x1 18 c1), .val (.slice x1 16 c1), .val (.slice x2 9 c2), .of (fun v w => Tms w.heap.size w v (noTms 16)) (fun h hb => RowB.on h hb), .val (.bool true), .val (.bool true), .val (.bool true), .val (.agg #[.int .i64 0, .int .i64 0, .int .i64 5, .int .i64 0, .int .i64 40]), .val (.slice (some ⟨gt, 0, none⟩) 1 1), .val (.bool true), .val (.bool true), .val (.bool true), .val (.agg #[.int .i64 0, .int .i64 0, .int .i64 0, .int .i64 0, .int .i64 40]), .val (.slice (some ⟨gt, 0, none⟩) 1 1), .val (.bool false), .val (.bool true), .val (.bool true)]) (fun _ _ _ => True) (by kernel_rfl) (by kernel_rfl) (by kernel_rfl) (fun h1 h2 => belowTr h1 h2) (fun h1 h2 => VK.keep h1 h2) (Below.refl _ _).drew (fun _ => trivial) (Sched.StepsA.steps (by kernel_rfl) ?hS23) ?hQ23
        case hS23 =>
         simp only [List.take_succ_cons, List.take_zero]
         refine ⟨?_, ?_, ?_, ?_, ?_, ?_, ?_, ?_, ?_, ?_, ?_, ?_, ?_, ?_, ?_, ?_, ?_, ?_, ?_, ?_, ?_, ?_, ?_, ?_, ?_, ?_, ?_, ?_, ?_, ?_, ?_, ?_, ?_, ?_, ?_, ?_, ?_, ?_, ?_, ?_, ?_, ?_, ?_, ?_, ?_, trivial⟩
         · intro ys done W aa hE hn hF hD hZ hG hO
           replace hE : Below y16.heap.size y16 W := hE
           go_wp2_with fail
           first | exact ⟨_, rfl, Below.refl _ _, VK.val rfl rfl, trivial⟩ | exact ⟨_, rfl, Below.refl _ _, VK.val rfl rfl⟩
         · intro ys done W aa hE hn hF hD hZ hG hO
           replace hE : Below y16.heap.size y16 W := hE
           have v0 := (hF 0 (by decide) (hD 0 (by kernel_rfl))).eq rfl
           have g0 := hG 0 131 rfl (Nat.le_of_ble_eq_true rfl)
           rw [v0] at g0
           refine BigFrame.wpList_want (by simp [Region.wanted, yielded, g0]) ?_
           intro K hK
           go_wp2_with fail
           refine (works_any W (hgx.on hE)).mono ?_
           rintro e W' ⟨rfl, hb'⟩
           replace hb' := Lib.hid hb'
           go_wp2_with fail
           first | exact ⟨_, rfl, hb'.out, VK.val rfl rfl, trivial⟩ | exact ⟨_, rfl, hb'.out, VK.val rfl rfl⟩
         · intro ys done W aa hE hn hF hD hZ hG hO
           replace hE : Below y16.heap.size y16 W := hE
           have v0 := (hF 0 (by decide) (hD 0 (by kernel_rfl))).eq rfl
           have g0 := hG 0 131 rfl (Nat.le_of_ble_eq_true rfl)
           rw [v0] at g0
           have v1 := (hF 1 (by decide) (hD 1 (by kernel_rfl))).eq rfl
           have g1 := hG 1 132 rfl (Nat.le_of_ble_eq_true rfl)
           rw [v1] at g1
           go_wp2_with fail
           first | exact ⟨_, rfl, Below.refl _ _, VK.val rfl rfl, trivial⟩ | exact ⟨_, rfl, Below.refl _ _, VK.val rfl rfl⟩
         · intro ys done W aa hE hn hF hD hZ hG hO
           replace hE : Below y16.heap.size y16 W := hE
           have v2 := (hF 2 (by decide) (hD 2 (by kernel_rfl))).eq rfl
           have g2 := hG 2 133 rfl (Nat.le_of_ble_eq_true rfl)
           rw [v2] at g2
           go_wp2_with fail
           first | exact ⟨_, rfl, Below.refl _ _, VK.val rfl rfl, trivial⟩ | exact ⟨_, rfl, Below.refl _ _, VK.val rfl rfl⟩
         · intro ys done W aa hE hn hF hD hZ hG hO
           replace hE : Below y16.heap.size y16 W := hE
           have v3 := (hF 3 (by decide) (hD 3 (by kernel_rfl))).eq rfl
           have g3 := hG 3 134 rfl (Nat.le_of_ble_eq_true rfl)
           rw [v3] at g3
           refine BigFrame.wpList_want (by simp [Region.wanted, yielded, g3]) ?_
           intro K hK
           have o1 := hO 1 (by kernel_rfl)
           replace o1 : aa.tmps[1]? = some (.pointer (some ⟨q, 0, none⟩)) := o1
           have hAt := hVx.keep hE hVx.inside
           have p0 := hAt.cell 0
           have p1 := hAt.cell 1
           have p2 := hAt.cell 2
           have p3 := hAt.cell 3
           have p4 := hAt.cell 4
           simp at p0 p1 p2 p3 p4
           clear hAt
           go_wp2_with fail
           first | exact ⟨_, rfl, Below.refl _ _, VK.val rfl rfl, trivial⟩ | exact ⟨_, rfl, Below.refl _ _, VK.val rfl rfl⟩
         · intro ys done W aa hE hn hF hD hZ hG hO
           replace hE : Below y16.heap.size y16 W := hE
           have v3 := (hF 3 (by decide) (hD 3 (by kernel_rfl))).eq rfl
           have g3 := hG 3 134 rfl (Nat.le_of_ble_eq_true rfl)
           rw [v3] at g3
           refine BigFrame.wpList_want (by simp [Region.wanted, yielded, g3]) ?_
           intro K hK
           have o11 := hO 11 (by kernel_rfl)
           replace o11 : aa.tmps[11]? = some (.slice x1 18 c1) := o11
           go_wp2_with fail
           first | exact ⟨_, rfl, Below.refl _ _, VK.val rfl rfl, trivial⟩ | exact ⟨_, rfl, Below.refl _ _, VK.val rfl rfl⟩
         · intro ys done W aa hE hn hF hD hZ hG hO
           replace hE : Below y16.heap.size y16 W := hE
           have v3 := (hF 3 (by decide) (hD 3 (by kernel_rfl))).eq rfl
           have g3 := hG 3 134 rfl (Nat.le_of_ble_eq_true rfl)
           rw [v3] at g3
           refine BigFrame.wpList_want (by simp [Region.wanted, yielded, g3]) ?_
           intro K hK
           have o12 := hO 12 (by kernel_rfl)
           replace o12 : aa.tmps[12]? = some (.slice x2 9 c2) := o12
           go_wp2_with fail
           first | exact ⟨_, rfl, Below.refl _ _, VK.val rfl rfl, trivial⟩ | exact ⟨_, rfl, Below.refl _ _, VK.val rfl rfl⟩
         · intro ys done W aa hE hn hF hD hZ hG hO
           replace hE : Below y16.heap.size y16 W := hE
           have v3 := (hF 3 (by decide) (hD 3 (by kernel_rfl))).eq rfl
           have g3 := hG 3 134 rfl (Nat.le_of_ble_eq_true rfl)
           rw [v3] at g3
           refine BigFrame.wpList_want (by simp [Region.wanted, yielded, g3]) ?_
           intro K hK
           have v4 := (hF 4 (by decide) (hD 4 (by kernel_rfl))).eq rfl
           have g4 := hG 4 135 rfl (Nat.le_of_ble_eq_true rfl)
           rw [v4] at g4
           have v5 := (hF 5 (by decide) (hD 5 (by kernel_rfl))).eq rfl
           have g5 := hG 5 136 rfl (Nat.le_of_ble_eq_true rfl)
           rw [v5] at g5
           have v6 := (hF 6 (by decide) (hD 6 (by kernel_rfl))).eq rfl
           have g6 := hG 6 137 rfl (Nat.le_of_ble_eq_true rfl)
           rw [v6] at g6
           go_wp2_with fail
           refine (Check_any vC _ _ (manyL 9) (allL 9) (by decide) (nums_of (by decide +kernel)) W (hMx.out.on hE) (RowB.on hAx.out hE)).mono ?_
           rintro e W' ⟨⟨u, rfl, hu⟩, hb'⟩
           rw [kKA] at hu
           replace hb' := Lib.hid hb'
           replace hu := Lib.hid hu
           go_wp2_with fail
           first | exact ⟨_, rfl, hb'.out, VK.of rfl hu.out, trivial⟩ | exact ⟨_, rfl, hb'.out, VK.of rfl hu.out⟩
         · intro ys done W aa hE hn hF hD hZ hG hO
           replace hE : Below y16.heap.size y16 W := hE
           have v3 := (hF 3 (by decide) (hD 3 (by kernel_rfl))).eq rfl
           have g3 := hG 3 134 rfl (Nat.le_of_ble_eq_true rfl)
           rw [v3] at g3
           refine BigFrame.wpList_want (by simp [Region.wanted, yielded, g3]) ?_
           intro K hK
           have v7 := (hF 7 (by decide) (hD 7 (by kernel_rfl))).get rfl
           have g7 := hG 7 138 rfl (Nat.le_of_ble_eq_true rfl)
           have hGW := hgx.on hE
           go_wp2_with fail
           refine (told_yes _ 11 2 16 _ hGW v7 (by decide)).mono ?_
           rintro e W' ⟨rfl, hb'⟩
           replace hb' := Lib.hid hb'
           go_wp2_with fail
           first | exact ⟨_, rfl, hb'.out, VK.val rfl rfl, trivial⟩ | exact ⟨_, rfl, hb'.out, VK.val rfl rfl⟩
         · intro ys done W aa hE hn hF hD hZ hG hO
           replace hE : Below y16.heap.size y16 W := hE
           have v3 := (hF 3 (by decide) (hD 3 (by kernel_rfl))).eq rfl
           have g3 := hG 3 134 rfl (Nat.le_of_ble_eq_true rfl)
           rw [v3] at g3
           have v8 := (hF 8 (by decide) (hD 8 (by kernel_rfl))).eq rfl
           have g8 := hG 8 139 rfl (Nat.le_of_ble_eq_true rfl)
           rw [v8] at g8
           go_wp2_with fail
           first | exact ⟨_, rfl, Below.refl _ _, VK.val rfl rfl, trivial⟩ | exact ⟨_, rfl, Below.refl _ _, VK.val rfl rfl⟩
         · intro ys done W aa hE hn hF hD hZ hG hO
           replace hE : Below y16.heap.size y16 W := hE
           have v9 := (hF 9 (by decide) (hD 9 (by kernel_rfl))).eq rfl
           have g9 := hG 9 140 rfl (Nat.le_of_ble_eq_true rfl)
           rw [v9] at g9
           go_wp2_with fail
           first | exact ⟨_, rfl, Below.refl _ _, VK.val rfl rfl, trivial⟩ | exact ⟨_, rfl, Below.refl _ _, VK.val rfl rfl⟩
         · intro ys done W aa hE hn hF hD hZ hG hO
           replace hE : Below y16.heap.size y16 W := hE
           have v10 := (hF 10 (by decide) (hD 10 (by kernel_rfl))).eq rfl
           have g10 := hG 10 141 rfl (Nat.le_of_ble_eq_true rfl)
           rw [v10] at g10
           refine BigFrame.wpList_want (by simp [Region.wanted, yielded, g10]) ?_
           intro K hK
           have o1 := hO 1 (by kernel_rfl)
           replace o1 : aa.tmps[1]? = some (.pointer (some ⟨q, 0, none⟩)) := o1
           have hAt := hVx.keep hE hVx.inside
           have p0 := hAt.cell 0
           have p1 := hAt.cell 1
           have p2 := hAt.cell 2
           have p3 := hAt.cell 3
           have p4 := hAt.cell 4
           simp at p0 p1 p2 p3 p4
           clear hAt
           go_wp2_with fail
           first | exact ⟨_, rfl, Below.refl _ _, VK.val rfl rfl, trivial⟩ | exact ⟨_, rfl, Below.refl _ _, VK.val rfl rfl⟩
         · intro ys done W aa hE hn hF hD hZ hG hO
           replace hE : Below y16.heap.size y16 W := hE
           have v10 := (hF 10 (by decide) (hD 10 (by kernel_rfl))).eq rfl
           have g10 := hG 10 141 rfl (Nat.le_of_ble_eq_true rfl)
           rw [v10] at g10
           refine BigFrame.wpList_want (by simp [Region.wanted, yielded, g10]) ?_
           intro K hK
           have o11 := hO 11 (by kernel_rfl)
           replace o11 : aa.tmps[11]? = some (.slice x1 18 c1) := o11
           go_wp2_with fail
           first | exact ⟨_, rfl, Below.refl _ _, VK.val rfl rfl, trivial⟩ | exact ⟨_, rfl, Below.refl _ _, VK.val rfl rfl⟩
         · intro ys done W aa hE hn hF hD hZ hG hO
           replace hE : Below y16.heap.size y16 W := hE
           have v10 := (hF 10 (by decide) (hD 10 (by kernel_rfl))).eq rfl
           have g10 := hG 10 141 rfl (Nat.le_of_ble_eq_true rfl)
           rw [v10] at g10
           refine BigFrame.wpList_want (by simp [Region.wanted, yielded, g10]) ?_
           intro K hK
           have v12 := (hF 12 (by decide) (hD 12 (by kernel_rfl))).eq rfl
           have g12 := hG 12 143 rfl (Nat.le_of_ble_eq_true rfl)
           rw [v12] at g12
           go_wp2_with fail
           first | exact ⟨_, rfl, Below.refl _ _, VK.val rfl rfl, trivial⟩ | exact ⟨_, rfl, Below.refl _ _, VK.val rfl rfl⟩
         · intro ys done W aa hE hn hF hD hZ hG hO
           replace hE : Below y16.heap.size y16 W := hE
           have v10 := (hF 10 (by decide) (hD 10 (by kernel_rfl))).eq rfl
           have g10 := hG 10 141 rfl (Nat.le_of_ble_eq_true rfl)
           rw [v10] at g10
           refine BigFrame.wpList_want (by simp [Region.wanted, yielded, g10]) ?_
           intro K hK
           have o12 := hO 12 (by kernel_rfl)
           replace o12 : aa.tmps[12]? = some (.slice x2 9 c2) := o12
           go_wp2_with fail
           first | exact ⟨_, rfl, Below.refl _ _, VK.val rfl rfl, trivial⟩ | exact ⟨_, rfl, Below.refl _ _, VK.val rfl rfl⟩
         · intro ys done W aa hE hn hF hD hZ hG hO
           replace hE : Below y16.heap.size y16 W := hE
           have v10 := (hF 10 (by decide) (hD 10 (by kernel_rfl))).eq rfl
           have g10 := hG 10 141 rfl (Nat.le_of_ble_eq_true rfl)
           rw [v10] at g10
           refine BigFrame.wpList_want (by simp [Region.wanted, yielded, g10]) ?_
           intro K hK
           have v11 := (hF 11 (by decide) (hD 11 (by kernel_rfl))).eq rfl
           have g11 := hG 11 142 rfl (Nat.le_of_ble_eq_true rfl)
           rw [v11] at g11
           have v13 := (hF 13 (by decide) (hD 13 (by kernel_rfl))).eq rfl
           have g13 := hG 13 144 rfl (Nat.le_of_ble_eq_true rfl)
           rw [v13] at g13
           have v14 := (hF 14 (by decide) (hD 14 (by kernel_rfl))).eq rfl
           have g14 := hG 14 145 rfl (Nat.le_of_ble_eq_true rfl)
           rw [v14] at g14
           go_wp2_with fail
           refine (Check_any vC _ _ ((manyL 9).take 16) (allL 9) (by decide) (nums_of (by decide +kernel)) W (Row.cutTo (hMx.out.on hE) (manyL_len 9) (by decide)) (RowB.on hAx.out hE)).mono ?_
           rintro e W' ⟨⟨u, rfl, hu⟩, hb'⟩
           rw [kKB] at hu
           obtain rfl := errAt_no hu rfl
           clear hu
           replace hb' := Lib.hid hb'
           go_wp2_with fail
           first | exact ⟨_, rfl, hb'.out, VK.val rfl rfl, trivial⟩ | exact ⟨_, rfl, hb'.out, VK.val rfl rfl⟩
         · intro ys done W aa hE hn hF hD hZ hG hO
           replace hE : Below y16.heap.size y16 W := hE
           have v10 := (hF 10 (by decide) (hD 10 (by kernel_rfl))).eq rfl
           have g10 := hG 10 141 rfl (Nat.le_of_ble_eq_true rfl)
           rw [v10] at g10
           refine BigFrame.wpList_want (by simp [Region.wanted, yielded, g10]) ?_
           intro K hK
           have v15 := (hF 15 (by decide) (hD 15 (by kernel_rfl))).eq rfl
           have g15 := hG 15 146 rfl (Nat.le_of_ble_eq_true rfl)
           rw [v15] at g15
           go_wp2_with fail
           first | exact ⟨_, rfl, Below.refl _ _, VK.val rfl rfl, trivial⟩ | exact ⟨_, rfl, Below.refl _ _, VK.val rfl rfl⟩
         · intro ys done W aa hE hn hF hD hZ hG hO
           replace hE : Below y16.heap.size y16 W := hE
           have v10 := (hF 10 (by decide) (hD 10 (by kernel_rfl))).eq rfl
           have g10 := hG 10 141 rfl (Nat.le_of_ble_eq_true rfl)
           rw [v10] at g10
           have v16 := (hF 16 (by decide) (hD 16 (by kernel_rfl))).eq rfl
           have g16 := hG 16 147 rfl (Nat.le_of_ble_eq_true rfl)
           rw [v16] at g16
           go_wp2_with fail
           first | exact ⟨_, rfl, Below.refl _ _, VK.val rfl rfl, trivial⟩ | exact ⟨_, rfl, Below.refl _ _, VK.val rfl rfl⟩
         · intro ys done W aa hE hn hF hD hZ hG hO
           replace hE : Below y16.heap.size y16 W := hE
           have v17 := (hF 17 (by decide) (hD 17 (by kernel_rfl))).eq rfl
           have g17 := hG 17 148 rfl (Nat.le_of_ble_eq_true rfl)
           rw [v17] at g17
           go_wp2_with fail
           first | exact ⟨_, rfl, Below.refl _ _, VK.val rfl rfl, trivial⟩ | exact ⟨_, rfl, Below.refl _ _, VK.val rfl rfl⟩
         · intro ys done W aa hE hn hF hD hZ hG hO
           replace hE : Below y16.heap.size y16 W := hE
           have v18 := (hF 18 (by decide) (hD 18 (by kernel_rfl))).eq rfl
           have g18 := hG 18 149 rfl (Nat.le_of_ble_eq_true rfl)
           rw [v18] at g18
           refine BigFrame.wpList_want (by simp [Region.wanted, yielded, g18]) ?_
           intro K hK
           have o1 := hO 1 (by kernel_rfl)
           replace o1 : aa.tmps[1]? = some (.pointer (some ⟨q, 0, none⟩)) := o1
           have hAt := hVx.keep hE hVx.inside
           have p0 := hAt.cell 0
           have p1 := hAt.cell 1
           have p2 := hAt.cell 2
           have p3 := hAt.cell 3
           have p4 := hAt.cell 4
           simp at p0 p1 p2 p3 p4
           clear hAt
           go_wp2_with fail
           first | exact ⟨_, rfl, Below.refl _ _, VK.val rfl rfl, trivial⟩ | exact ⟨_, rfl, Below.refl _ _, VK.val rfl rfl⟩
         · intro ys done W aa hE hn hF hD hZ hG hO
           replace hE : Below y16.heap.size y16 W := hE
           have v18 := (hF 18 (by decide) (hD 18 (by kernel_rfl))).eq rfl
           have g18 := hG 18 149 rfl (Nat.le_of_ble_eq_true rfl)
           rw [v18] at g18
           refine BigFrame.wpList_want (by simp [Region.wanted, yielded, g18]) ?_
           intro K hK
           have o11 := hO 11 (by kernel_rfl)
           replace o11 : aa.tmps[11]? = some (.slice x1 18 c1) := o11
           go_wp2_with fail
           first | exact ⟨_, rfl, Below.refl _ _, VK.val rfl rfl, trivial⟩ | exact ⟨_, rfl, Below.refl _ _, VK.val rfl rfl⟩
         · intro ys done W aa hE hn hF hD hZ hG hO
           replace hE : Below y16.heap.size y16 W := hE
           have v18 := (hF 18 (by decide) (hD 18 (by kernel_rfl))).eq rfl
           have g18 := hG 18 149 rfl (Nat.le_of_ble_eq_true rfl)
           rw [v18] at g18
           refine BigFrame.wpList_want (by simp [Region.wanted, yielded, g18]) ?_
           intro K hK
           have o12 := hO 12 (by kernel_rfl)
           replace o12 : aa.tmps[12]? = some (.slice x2 9 c2) := o12
           go_wp2_with fail
           first | exact ⟨_, rfl, Below.refl _ _, VK.val rfl rfl, trivial⟩ | exact ⟨_, rfl, Below.refl _ _, VK.val rfl rfl⟩
         · intro ys done W aa hE hn hF hD hZ hG hO
           replace hE : Below y16.heap.size y16 W := hE
           have v18 := (hF 18 (by decide) (hD 18 (by kernel_rfl))).eq rfl
           have g18 := hG 18 149 rfl (Nat.le_of_ble_eq_true rfl)
           rw [v18] at g18
           refine BigFrame.wpList_want (by simp [Region.wanted, yielded, g18]) ?_
           intro K hK
           go_wp2_with fail
           first | exact ⟨_, rfl, (Below.refl _ _).alloc (Nat.le_refl _) _, VK.of rfl (tms_zeros hcs18 rfl), trivial⟩ | exact ⟨_, rfl, (Below.refl _ _).alloc (Nat.le_refl _) _, VK.of rfl (tms_zeros hcs18 rfl)⟩
         · intro ys done W aa hE hn hF hD hZ hG hO
           replace hE : Below y16.heap.size y16 W := hE
           have v18 := (hF 18 (by decide) (hD 18 (by kernel_rfl))).eq rfl
           have g18 := hG 18 149 rfl (Nat.le_of_ble_eq_true rfl)
           rw [v18] at g18
           refine BigFrame.wpList_want (by simp [Region.wanted, yielded, g18]) ?_
           intro K hK
           have v19 := (hF 19 (by decide) (hD 19 (by kernel_rfl))).eq rfl
           have g19 := hG 19 150 rfl (Nat.le_of_ble_eq_true rfl)
           rw [v19] at g19
           have v20 := (hF 20 (by decide) (hD 20 (by kernel_rfl))).eq rfl
           have g20 := hG 20 151 rfl (Nat.le_of_ble_eq_true rfl)
           rw [v20] at g20
           have v21 := (hF 21 (by decide) (hD 21 (by kernel_rfl))).eq rfl
           have g21 := hG 21 152 rfl (Nat.le_of_ble_eq_true rfl)
           rw [v21] at g21
           have v22 := (hF 22 (by decide) (hD 22 (by kernel_rfl))).get rfl
           have g22 := hG 22 153 rfl (Nat.le_of_ble_eq_true rfl)
           go_wp2_with fail
           refine (Right_any vC _ _ _ (manyL 9) (allL 9) (noTms 18) (by decide) (nums_of (by decide +kernel)) W (hMx.out.on hE) (RowB.on hAx.out hE) v22).mono ?_
           rintro e W' ⟨rfl, hb'⟩
           rw [kKC]
           replace hb' := Lib.hid hb'
           go_wp2_with fail
           first | exact ⟨_, rfl, hb'.out, VK.val rfl rfl, trivial⟩ | exact ⟨_, rfl, hb'.out, VK.val rfl rfl⟩
         · intro ys done W aa hE hn hF hD hZ hG hO
           replace hE : Below y16.heap.size y16 W := hE
           have v18 := (hF 18 (by decide) (hD 18 (by kernel_rfl))).eq rfl
           have g18 := hG 18 149 rfl (Nat.le_of_ble_eq_true rfl)
           rw [v18] at g18
           refine BigFrame.wpList_want (by simp [Region.wanted, yielded, g18]) ?_
           intro K hK
           have v23 := (hF 23 (by decide) (hD 23 (by kernel_rfl))).eq rfl
           have g23 := hG 23 154 rfl (Nat.le_of_ble_eq_true rfl)
           rw [v23] at g23
           go_wp2_with fail
           first | exact ⟨_, rfl, Below.refl _ _, VK.val rfl rfl, trivial⟩ | exact ⟨_, rfl, Below.refl _ _, VK.val rfl rfl⟩
         · intro ys done W aa hE hn hF hD hZ hG hO
           replace hE : Below y16.heap.size y16 W := hE
           have v18 := (hF 18 (by decide) (hD 18 (by kernel_rfl))).eq rfl
           have g18 := hG 18 149 rfl (Nat.le_of_ble_eq_true rfl)
           rw [v18] at g18
           have v24 := (hF 24 (by decide) (hD 24 (by kernel_rfl))).eq rfl
           have g24 := hG 24 155 rfl (Nat.le_of_ble_eq_true rfl)
           rw [v24] at g24
           go_wp2_with fail
           first | exact ⟨_, rfl, Below.refl _ _, VK.val rfl rfl, trivial⟩ | exact ⟨_, rfl, Below.refl _ _, VK.val rfl rfl⟩
         · intro ys done W aa hE hn hF hD hZ hG hO
           replace hE : Below y16.heap.size y16 W := hE
           have v25 := (hF 25 (by decide) (hD 25 (by kernel_rfl))).eq rfl
           have g25 := hG 25 156 rfl (Nat.le_of_ble_eq_true rfl)
           rw [v25] at g25
           go_wp2_with fail
           first | exact ⟨_, rfl, Below.refl _ _, VK.val rfl rfl, trivial⟩ | exact ⟨_, rfl, Below.refl _ _, VK.val rfl rfl⟩
         · intro ys done W aa hE hn hF hD hZ hG hO
           replace hE : Below y16.heap.size y16 W := hE
           have v26 := (hF 26 (by decide) (hD 26 (by kernel_rfl))).eq rfl
           have g26 := hG 26 157 rfl (Nat.le_of_ble_eq_true rfl)
           rw [v26] at g26
           refine BigFrame.wpList_want (by simp [Region.wanted, yielded, g26]) ?_
           intro K hK
           have o1 := hO 1 (by kernel_rfl)
           replace o1 : aa.tmps[1]? = some (.pointer (some ⟨q, 0, none⟩)) := o1
           have hAt := hVx.keep hE hVx.inside
           have p0 := hAt.cell 0
           have p1 := hAt.cell 1
           have p2 := hAt.cell 2
           have p3 := hAt.cell 3
           have p4 := hAt.cell 4
           simp at p0 p1 p2 p3 p4
           clear hAt
           go_wp2_with fail
           first | exact ⟨_, rfl, Below.refl _ _, VK.val rfl rfl, trivial⟩ | exact ⟨_, rfl, Below.refl _ _, VK.val rfl rfl⟩
         · intro ys done W aa hE hn hF hD hZ hG hO
           replace hE : Below y16.heap.size y16 W := hE
           have v26 := (hF 26 (by decide) (hD 26 (by kernel_rfl))).eq rfl
           have g26 := hG 26 157 rfl (Nat.le_of_ble_eq_true rfl)
           rw [v26] at g26
           refine BigFrame.wpList_want (by simp [Region.wanted, yielded, g26]) ?_
           intro K hK
           have o11 := hO 11 (by kernel_rfl)
           replace o11 : aa.tmps[11]? = some (.slice x1 18 c1) := o11
           go_wp2_with fail
           first | exact ⟨_, rfl, Below.refl _ _, VK.val rfl rfl, trivial⟩ | exact ⟨_, rfl, Below.refl _ _, VK.val rfl rfl⟩
         · intro ys done W aa hE hn hF hD hZ hG hO
           replace hE : Below y16.heap.size y16 W := hE
           have v26 := (hF 26 (by decide) (hD 26 (by kernel_rfl))).eq rfl
           have g26 := hG 26 157 rfl (Nat.le_of_ble_eq_true rfl)
           rw [v26] at g26
           refine BigFrame.wpList_want (by simp [Region.wanted, yielded, g26]) ?_
           intro K hK
           have v28 := (hF 28 (by decide) (hD 28 (by kernel_rfl))).eq rfl
           have g28 := hG 28 159 rfl (Nat.le_of_ble_eq_true rfl)
           rw [v28] at g28
           go_wp2_with fail
           first | exact ⟨_, rfl, Below.refl _ _, VK.val rfl rfl, trivial⟩ | exact ⟨_, rfl, Below.refl _ _, VK.val rfl rfl⟩
         · intro ys done W aa hE hn hF hD hZ hG hO
           replace hE : Below y16.heap.size y16 W := hE
           have v26 := (hF 26 (by decide) (hD 26 (by kernel_rfl))).eq rfl
           have g26 := hG 26 157 rfl (Nat.le_of_ble_eq_true rfl)
           rw [v26] at g26
           refine BigFrame.wpList_want (by simp [Region.wanted, yielded, g26]) ?_
           intro K hK
           have o12 := hO 12 (by kernel_rfl)
           replace o12 : aa.tmps[12]? = some (.slice x2 9 c2) := o12
           go_wp2_with fail
           first | exact ⟨_, rfl, Below.refl _ _, VK.val rfl rfl, trivial⟩ | exact ⟨_, rfl, Below.refl _ _, VK.val rfl rfl⟩
         · intro ys done W aa hE hn hF hD hZ hG hO
           replace hE : Below y16.heap.size y16 W := hE
           have v26 := (hF 26 (by decide) (hD 26 (by kernel_rfl))).eq rfl
           have g26 := hG 26 157 rfl (Nat.le_of_ble_eq_true rfl)
           rw [v26] at g26
           refine BigFrame.wpList_want (by simp [Region.wanted, yielded, g26]) ?_
           intro K hK
           go_wp2_with fail
           first | exact ⟨_, rfl, (Below.refl _ _).alloc (Nat.le_refl _) _, VK.of rfl (tms_zeros hcs16 rfl), trivial⟩ | exact ⟨_, rfl, (Below.refl _ _).alloc (Nat.le_refl _) _, VK.of rfl (tms_zeros hcs16 rfl)⟩
         · intro ys done W aa hE hn hF hD hZ hG hO
           replace hE : Below y16.heap.size y16 W := hE
           have v26 := (hF 26 (by decide) (hD 26 (by kernel_rfl))).eq rfl
           have g26 := hG 26 157 rfl (Nat.le_of_ble_eq_true rfl)
           rw [v26] at g26
           refine BigFrame.wpList_want (by simp [Region.wanted, yielded, g26]) ?_
           intro K hK
           have v27 := (hF 27 (by decide) (hD 27 (by kernel_rfl))).eq rfl
           have g27 := hG 27 158 rfl (Nat.le_of_ble_eq_true rfl)
           rw [v27] at g27
           have v29 := (hF 29 (by decide) (hD 29 (by kernel_rfl))).eq rfl
           have g29 := hG 29 160 rfl (Nat.le_of_ble_eq_true rfl)
           rw [v29] at g29
           have v30 := (hF 30 (by decide) (hD 30 (by kernel_rfl))).eq rfl
           have g30 := hG 30 161 rfl (Nat.le_of_ble_eq_true rfl)
           rw [v30] at g30
           have v31 := (hF 31 (by decide) (hD 31 (by kernel_rfl))).get rfl
           have g31 := hG 31 162 rfl (Nat.le_of_ble_eq_true rfl)
           go_wp2_with fail
           refine (Right_any vC _ _ _ ((manyL 9).take 16) (allL 9) (noTms 16) (by decide) (nums_of (by decide +kernel)) W (Row.cutTo (hMx.out.on hE) (manyL_len 9) (by decide)) (RowB.on hAx.out hE) v31).mono ?_
           rintro e W' ⟨rfl, hb'⟩
           rw [kKD]
           replace hb' := Lib.hid hb'
           go_wp2_with fail
           first | exact ⟨_, rfl, hb'.out, VK.val rfl rfl, trivial⟩ | exact ⟨_, rfl, hb'.out, VK.val rfl rfl⟩
         · intro ys done W aa hE hn hF hD hZ hG hO
           replace hE : Below y16.heap.size y16 W := hE
           have v26 := (hF 26 (by decide) (hD 26 (by kernel_rfl))).eq rfl
           have g26 := hG 26 157 rfl (Nat.le_of_ble_eq_true rfl)
           rw [v26] at g26
           have v32 := (hF 32 (by decide) (hD 32 (by kernel_rfl))).eq rfl
           have g32 := hG 32 163 rfl (Nat.le_of_ble_eq_true rfl)
           rw [v32] at g32
           go_wp2_with fail
           first | exact ⟨_, rfl, Below.refl _ _, VK.val rfl rfl, trivial⟩ | exact ⟨_, rfl, Below.refl _ _, VK.val rfl rfl⟩
         · intro ys done W aa hE hn hF hD hZ hG hO
           replace hE : Below y16.heap.size y16 W := hE
           have v33 := (hF 33 (by decide) (hD 33 (by kernel_rfl))).eq rfl
           have g33 := hG 33 164 rfl (Nat.le_of_ble_eq_true rfl)
           rw [v33] at g33
           go_wp2_with fail
           first | exact ⟨_, rfl, Below.refl _ _, VK.val rfl rfl, trivial⟩ | exact ⟨_, rfl, Below.refl _ _, VK.val rfl rfl⟩
         · intro ys done W aa hE hn hF hD hZ hG hO
           replace hE : Below y16.heap.size y16 W := hE
           have v34 := (hF 34 (by decide) (hD 34 (by kernel_rfl))).eq rfl
           have g34 := hG 34 165 rfl (Nat.le_of_ble_eq_true rfl)
           rw [v34] at g34
           refine BigFrame.wpList_want (by simp [Region.wanted, yielded, g34]) ?_
           intro K hK
           have o1 := hO 1 (by kernel_rfl)
           replace o1 : aa.tmps[1]? = some (.pointer (some ⟨q, 0, none⟩)) := o1
           have hAt := hVx.keep hE hVx.inside
           have p0 := hAt.cell 0
           have p1 := hAt.cell 1
           have p2 := hAt.cell 2
           have p3 := hAt.cell 3
           have p4 := hAt.cell 4
           simp at p0 p1 p2 p3 p4
           clear hAt
           go_wp2_with fail
           first | exact ⟨_, rfl, Below.refl _ _, VK.val rfl rfl, trivial⟩ | exact ⟨_, rfl, Below.refl _ _, VK.val rfl rfl⟩
         · intro ys done W aa hE hn hF hD hZ hG hO
           replace hE : Below y16.heap.size y16 W := hE
           have v34 := (hF 34 (by decide) (hD 34 (by kernel_rfl))).eq rfl
           have g34 := hG 34 165 rfl (Nat.le_of_ble_eq_true rfl)
           rw [v34] at g34
           refine BigFrame.wpList_want (by simp [Region.wanted, yielded, g34]) ?_
           intro K hK
           have o3 := hO 3 (by kernel_rfl)
           replace o3 : aa.tmps[3]? = some (.slice (some ⟨gt, 0, none⟩) 1 1) := o3
           go_wp2_with fail
           first | exact ⟨_, rfl, Below.refl _ _, VK.val rfl rfl, trivial⟩ | exact ⟨_, rfl, Below.refl _ _, VK.val rfl rfl⟩
         · intro ys done W aa hE hn hF hD hZ hG hO
           replace hE : Below y16.heap.size y16 W := hE
           have v34 := (hF 34 (by decide) (hD 34 (by kernel_rfl))).eq rfl
           have g34 := hG 34 165 rfl (Nat.le_of_ble_eq_true rfl)
           rw [v34] at g34
           refine BigFrame.wpList_want (by simp [Region.wanted, yielded, g34]) ?_
           intro K hK
           have v35 := (hF 35 (by decide) (hD 35 (by kernel_rfl))).eq rfl
           have g35 := hG 35 166 rfl (Nat.le_of_ble_eq_true rfl)
           rw [v35] at g35
           have v36 := (hF 36 (by decide) (hD 36 (by kernel_rfl))).eq rfl
           have g36 := hG 36 167 rfl (Nat.le_of_ble_eq_true rfl)
           rw [v36] at g36
           go_wp2_with fail
           refine (Right_any vC _ _ _ [] tC [] (by decide) (nums_of (by decide +kernel)) W (RowB.nil _ _ _) (Rqs.laid1 (q := qC) (hTx.keep hE hTx.inside)) (RowB.nil _ _ _)).mono ?_
           rintro e W' ⟨rfl, hb'⟩
           rw [kKE]
           replace hb' := Lib.hid hb'
           go_wp2_with fail
           first | exact ⟨_, rfl, hb'.out, VK.val rfl rfl, trivial⟩ | exact ⟨_, rfl, hb'.out, VK.val rfl rfl⟩
         · intro ys done W aa hE hn hF hD hZ hG hO
           replace hE : Below y16.heap.size y16 W := hE
           have v34 := (hF 34 (by decide) (hD 34 (by kernel_rfl))).eq rfl
           have g34 := hG 34 165 rfl (Nat.le_of_ble_eq_true rfl)
           rw [v34] at g34
           have v37 := (hF 37 (by decide) (hD 37 (by kernel_rfl))).eq rfl
           have g37 := hG 37 168 rfl (Nat.le_of_ble_eq_true rfl)
           rw [v37] at g37
           go_wp2_with fail
           first | exact ⟨_, rfl, Below.refl _ _, VK.val rfl rfl, trivial⟩ | exact ⟨_, rfl, Below.refl _ _, VK.val rfl rfl⟩
         · intro ys done W aa hE hn hF hD hZ hG hO
           replace hE : Below y16.heap.size y16 W := hE
           have v38 := (hF 38 (by decide) (hD 38 (by kernel_rfl))).eq rfl
           have g38 := hG 38 169 rfl (Nat.le_of_ble_eq_true rfl)
           rw [v38] at g38
           go_wp2_with fail
           first | exact ⟨_, rfl, Below.refl _ _, VK.val rfl rfl, trivial⟩ | exact ⟨_, rfl, Below.refl _ _, VK.val rfl rfl⟩
         · intro ys done W aa hE hn hF hD hZ hG hO
           replace hE : Below y16.heap.size y16 W := hE
           have v39 := (hF 39 (by decide) (hD 39 (by kernel_rfl))).eq rfl
           have g39 := hG 39 170 rfl (Nat.le_of_ble_eq_true rfl)
           rw [v39] at g39
           refine BigFrame.wpList_want (by simp [Region.wanted, yielded, g39]) ?_
           intro K hK
           have o4 := hO 4 (by kernel_rfl)
           replace o4 : aa.tmps[4]? = some (.pointer (some ⟨gs, 0, none⟩)) := o4
           have hAt := hSx.keep hE hSx.inside
           have p0 := hAt.cell 0
           have p1 := hAt.cell 1
           have p2 := hAt.cell 2
           have p3 := hAt.cell 3
           have p4 := hAt.cell 4
           simp at p0 p1 p2 p3 p4
           clear hAt
           go_wp2_with fail
           first | exact ⟨_, rfl, Below.refl _ _, VK.val rfl rfl, trivial⟩ | exact ⟨_, rfl, Below.refl _ _, VK.val rfl rfl⟩
         · intro ys done W aa hE hn hF hD hZ hG hO
           replace hE : Below y16.heap.size y16 W := hE
           have v39 := (hF 39 (by decide) (hD 39 (by kernel_rfl))).eq rfl
           have g39 := hG 39 170 rfl (Nat.le_of_ble_eq_true rfl)
           rw [v39] at g39
           refine BigFrame.wpList_want (by simp [Region.wanted, yielded, g39]) ?_
           intro K hK
           have o3 := hO 3 (by kernel_rfl)
           replace o3 : aa.tmps[3]? = some (.slice (some ⟨gt, 0, none⟩) 1 1) := o3
           go_wp2_with fail
           first | exact ⟨_, rfl, Below.refl _ _, VK.val rfl rfl, trivial⟩ | exact ⟨_, rfl, Below.refl _ _, VK.val rfl rfl⟩
         · intro ys done W aa hE hn hF hD hZ hG hO
           replace hE : Below y16.heap.size y16 W := hE
           have v39 := (hF 39 (by decide) (hD 39 (by kernel_rfl))).eq rfl
           have g39 := hG 39 170 rfl (Nat.le_of_ble_eq_true rfl)
           rw [v39] at g39
           refine BigFrame.wpList_want (by simp [Region.wanted, yielded, g39]) ?_
           intro K hK
           have v40 := (hF 40 (by decide) (hD 40 (by kernel_rfl))).eq rfl
           have g40 := hG 40 171 rfl (Nat.le_of_ble_eq_true rfl)
           rw [v40] at g40
           have v41 := (hF 41 (by decide) (hD 41 (by kernel_rfl))).eq rfl
           have g41 := hG 41 172 rfl (Nat.le_of_ble_eq_true rfl)
           rw [v41] at g41
           go_wp2_with fail
           refine (Right_any vB _ _ _ [] tC [] (by decide) (nums_of (by decide +kernel)) W (RowB.nil _ _ _) (Rqs.laid1 (q := qC) (hTx.keep hE hTx.inside)) (RowB.nil _ _ _)).mono ?_
           rintro e W' ⟨rfl, hb'⟩
           rw [kKF]
           replace hb' := Lib.hid hb'
           go_wp2_with fail
           first | exact ⟨_, rfl, hb'.out, VK.val rfl rfl, trivial⟩ | exact ⟨_, rfl, hb'.out, VK.val rfl rfl⟩
         · intro ys done W aa hE hn hF hD hZ hG hO
           replace hE : Below y16.heap.size y16 W := hE
           have v39 := (hF 39 (by decide) (hD 39 (by kernel_rfl))).eq rfl
           have g39 := hG 39 170 rfl (Nat.le_of_ble_eq_true rfl)
           rw [v39] at g39
           refine BigFrame.wpList_want (by simp [Region.wanted, yielded, g39]) ?_
           intro K hK
           have v42 := (hF 42 (by decide) (hD 42 (by kernel_rfl))).eq rfl
           have g42 := hG 42 173 rfl (Nat.le_of_ble_eq_true rfl)
           rw [v42] at g42
           go_wp2_with fail
           first | exact ⟨_, rfl, Below.refl _ _, VK.val rfl rfl, trivial⟩ | exact ⟨_, rfl, Below.refl _ _, VK.val rfl rfl⟩
         · intro ys done W aa hE hn hF hD hZ hG hO
           replace hE : Below y16.heap.size y16 W := hE
           have v39 := (hF 39 (by decide) (hD 39 (by kernel_rfl))).eq rfl
           have g39 := hG 39 170 rfl (Nat.le_of_ble_eq_true rfl)
           rw [v39] at g39
           have v43 := (hF 43 (by decide) (hD 43 (by kernel_rfl))).eq rfl
           have g43 := hG 43 174 rfl (Nat.le_of_ble_eq_true rfl)
           rw [v43] at g43
           go_wp2_with fail
           first | exact ⟨_, rfl, Below.refl _ _, VK.val rfl rfl, trivial⟩ | exact ⟨_, rfl, Below.refl _ _, VK.val rfl rfl⟩
        case hQ23 =>
         intro ys w10 hE hF _
         replace hE : Below y16.heap.size y16 w10 := hE
         have v44 := (hF 44 (by decide)).eq rfl
         have hB10 := hBx.trans (hE.mono hBx.size)
         simp only [List.take_succ_cons, List.take_zero, List.drop_succ_cons, List.drop_zero, Sched.fill, v44]
         clear hF v44
         go_simp
         clear hVx hSx hTx hMx hAx hgx hE hBx
         go_wp2
         go_ret
         exact ⟨rfl, hB10⟩

end Go.Proofs.YteefkijmodcijaaDoor.Feas

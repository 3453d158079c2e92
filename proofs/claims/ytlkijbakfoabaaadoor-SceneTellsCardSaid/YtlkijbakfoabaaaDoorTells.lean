/-
  SceneTells returns true, of every draft, turn and scene.
-/
import Derived.Test.YtlkijbakfoabaaaDoorTurnOne
import Derived.Test.YtlkijbakfoabaaaDoorCut
import Derived.Test.YtlkijbakfoabaaaDoorSchedAll
import Derived.Test.YtlkijbakfoabaaaDoorSceneTold
import Derived.Test.YtlkijbakfoabaaaDoorSceneWorks2
import Derived.Test.YtlkijbakfoabaaaDoorSceneRefCheck
import Derived.Test.YtlkijbakfoabaaaDoorSceneRefOwners
import Derived.Test.YtlkijbakfoabaaaDoorSceneOwners
namespace Go.Proofs.YtlkijbakfoabaaaDoor.Scene
open Go.RowKit Go.Sort Go.Proofs.YtlkijbakfoabaaaDoor.Mem
set_option linter.unusedVariables false

/-- A scene that is looked at. -/
def IsSc (y : Value) (W : World) : Prop := ∃ vR vC vL vD us s, y = .agg #[vR, vC, vL, .int .i64 s.cm, .int .i64 s.rv, .int .i64 s.sch, vD] ∧ SceneAt W.heap.size W vR vC vL vD us s ∧ Fair s ∧ s.reqs.length ≤ 100 ∧ s.cars.length ≤ 100
theorem IsSc.keep {y : Value} {W V : World} (h : IsSc y W) (hb : Below W.heap.size W V) : IsSc y V := by
  obtain ⟨vR, vC, vL, vD, us, s, e, h1, h2, h3, h4⟩ := h
  exact ⟨vR, vC, vL, vD, us, s, e, (h1.keep hb (Nat.le_refl _)).more hb.size, h2, h3, h4⟩
theorem belowTr {a b c : World} (h : Below a.heap.size a b) (k : Below b.heap.size b c) : Below a.heap.size a c := h.trans (k.mono h.size)
def V2 (a0 a1 a2 a3 a4 a5 a6 : Value) (TA RA : Value) : Nat → Value → World → Prop
  | 0, y, _ => y = .agg #[a0, a1, a2, a3, a4, a5, a6]
  | 1, y, _ => y = TA
  | 2, y, _ => y = .agg #[a0, a1, a2, a3, a4, a5, a6]
  | 3, y, W => IsSc y W
  | 4, y, _ => y = RA
  | 5, y, W => IsSc y W
  | 6, y, W => ∃ b0 b1 b2 b3 b4 b5 b6 c0 c1 c2 c3 c4 c5 c6 : Value, IsSc (.agg #[b0, b1, b2, b3, b4, b5, b6]) W ∧ IsSc (.agg #[c0, c1, c2, c3, c4, c5, c6]) W ∧ y = .agg #[a0, a1, a2, a3, a4, a5, a6, b0, b1, b2, b3, b4, b5, b6, c0, c1, c2, c3, c4, c5, c6]
  | 7, y, _ => y = .int .i64 0
  | _, _, _ => True
theorem V2.keep {a0 a1 a2 a3 a4 a5 a6 TA RA : Value} {i : Nat} {v : Value} {W V : World} (h : V2 a0 a1 a2 a3 a4 a5 a6 TA RA i v W) (hb : Below W.heap.size W V) : V2 a0 a1 a2 a3 a4 a5 a6 TA RA i v V := by
  match i with
  | 0 | 1 | 2 | 4 | 7 => exact h
  | 3 | 5 => exact IsSc.keep h hb
  | 6 =>
    obtain ⟨b0, b1, b2, b3, b4, b5, b6, c0, c1, c2, c3, c4, c5, c6, h1, h2, h3⟩ := h
    exact ⟨b0, b1, b2, b3, b4, b5, b6, c0, c1, c2, c3, c4, c5, c6, h1.keep hb, h2.keep hb, h3⟩
  | i + 8 => trivial
def V5t (SA : Value) (s : Sc) : Nat → Value → World → Prop
  | 0, y, _ => y = SA
  | 1, y, W => ErrAt W y (faultV s)
  | 2, y, _ => y = SA
  | 3, y, _ => y = faultOf (faultV s)
  | 4, y, _ => y = .bool true
  | 5, y, _ => y = .bool false
  | 6, y, _ => y = .bool false
  | 7, y, _ => y = SA
  | 8, y, W => RowB W.heap.size W y 1 ((ownersL s).map inV)
  | 9, y, _ => y = SA
  | 10, y, W => RowB W.heap.size W y 1 ((ownersL s).map inV)
  | 11, y, _ => y = .bool true
  | 12, y, _ => y = .bool false
  | _, _, _ => True
theorem V5t.keep {SA : Value} {s : Sc} {i : Nat} {v : Value} {W V : World} (h : V5t SA s i v W) (hb : Below W.heap.size W V) : V5t SA s i v V := by
  match i with
  | 0 | 2 | 3 | 4 | 5 | 6 | 7 | 9 | 11 | 12 => exact h
  | 1 => exact ErrAt.keep h hb (Nat.le_refl _)
  | 8 | 10 => exact (RowB.keep h hb (Nat.le_refl _)).more hb.size
  | i + 13 => trivial
def LpT (w9 : World) (v : Value) (ws : World) : Prop := ∃ k : Nat, v = .int .i64 k ∧ k ≤ 3 ∧ Below w9.heap.size w9 ws
theorem LpT.mk_ {w9 : World} {v : Value} {ws : World} (k : Nat) (h : v = .int .i64 k) (h1 : k ≤ 3) (h2 : Below w9.heap.size w9 ws) : LpT w9 v ws := ⟨k, h, h1, h2⟩
theorem belowAX (w : World) (o : Obj) : Below w.heap.size w (w.alloc o) := (Below.refl _ _).alloc (Nat.le_refl _) _
theorem Hd.grownX {w v : World} (h : Hd w) {g : Nat} (hg : w.grownBy v (some g)) (h0 : 0 < g) : Hd v := hg.cell h (by simp; omega)

set_option maxRecDepth 100000 in
set_option maxHeartbeats 8000000 in
theorem tells_any (w : World) (hg : Hd w) (sv : Value) (bs : List Int) (a b c k : Int) (hrow : RowB w.heap.size w sv 1 (bs.map byV)) (hbyte : ∀ x ∈ bs, 0 ≤ x ∧ x < 256) (ha : 0 ≤ a ∧ a < 256) (hb : 0 ≤ b ∧ b < 256) (hc : 0 ≤ c ∧ c < 256)
    (wh ax N : Int) (hwh : 0 ≤ wh ∧ wh < 256) (hax : 0 ≤ ax ∧ ax < 256) (hN : -9223372036854775808 ≤ N ∧ N ≤ 9223372036854775807) (rR rC rL rD : Value) (uq : List (Value × Value)) (q : Sc) (hQ : SceneAt w.heap.size w rR rC rL rD uq q) (hq1 : ∀ c ∈ q.cars, ∀ r ∈ c.own, I64 r) (hq2 : ∀ l ∈ q.lots, I64 l.req) :
    Calls Tryd.prog 3 #[.agg #[sv, .int .u8 a, .int .u8 b, .int .u8 c, .int .i64 k], .agg #[.int .u8 wh, .int .u8 ax, .int .i64 N], .agg #[rR, rC, rL, .int .i64 q.cm, .int .i64 q.rv, .int .i64 q.sch, rD]] w fun e w' => e = .returned (.bool true) ∧ Below w.heap.size w w' := by
  obtain ⟨xB, capB, rfl, _, _, _⟩ := id hrow
  obtain ⟨yR, eR, rfl, _, _, _⟩ := id hQ.reqs
  obtain ⟨yC, eC, rfl, _, _, _⟩ := id hQ.cars.row
  obtain ⟨yL, eL, rfl, _, _, _⟩ := id hQ.lots
  obtain ⟨yD, eD, rfl, _, _⟩ := id hQ.draws
  simp only [List.length_map] at hrow hQ ⊢
  obtain ⟨W1, hW1⟩ : ∃ W1, ((w.alloc (.cells #[.slice xB bs.length capB, .int .u8 a, .int .u8 b, .int .u8 c, .int .i64 k] 25)).alloc (.cells #[.int .u8 wh, .int .u8 ax, .int .i64 N] 27)).alloc (.cells #[.slice yR q.reqs.length eR, .slice yC uq.length eC, .slice yL q.lots.length eL, .int .i64 q.cm, .int .i64 q.rv, .int .i64 q.sch, .slice yD q.draws eD] 33) = W1 := ⟨_, rfl⟩
  have hb1 : Below w.heap.size w W1 := by rw [← hW1]; exact (((Below.refl _ _).alloc (Nat.le_refl _) _).alloc (by simp) _).alloc (by simp; omega) _
  have hD1 : DraftAt W1 w.heap.size (.slice xB bs.length capB) bs a b c k := ⟨by rw [← hW1]; exact ((At.new _ _ _).alloc _).alloc _, hrow.keep hb1 (Nat.le_refl _), hbyte⟩
  have hT1 : At W1 (w.heap.size + 1) 27 #[.int .u8 wh, .int .u8 ax, .int .i64 N] := by rw [← hW1]; exact (At.new_ _ _ _ (by simp)).alloc _
  have hR1 : At W1 (w.heap.size + 1 + 1) 33 #[.slice yR q.reqs.length eR, .slice yC uq.length eC, .slice yL q.lots.length eL, .int .i64 q.cm, .int .i64 q.rv, .int .i64 q.sch, .slice yD q.draws eD] := by rw [← hW1]; exact At.new_ _ _ _ (by simp)
  have hg1 := hg.keep hb1 hg.pos
  have hgp := hg.pos
  have hQ' := Lib.hid hQ
  have hq1' := Lib.hid hq1
  have hq2' := Lib.hid hq2
  clear hrow hbyte hg hQ hq1 hq2
  go_enter Tryd.func3, Tryd.ntmps3
  go_wp2_with fail
  try rw [hW1]
  clear hW1
  refine (draft_any _ w.heap.size (.slice xB bs.length capB) bs a b c k hD1 ha hb hc).mono ?_
  rintro e w3 ⟨vR, vC, vL, vD, us, s, k', rfl, hS, ⟨hds, hpl⟩, hdr, _, hgr⟩
  have hT3 := gAt hT1 hgr (by simp)
  have hR3 := gAt hR1 hgr (by simp <;> omega)
  have hB3 := hb1.grown hgr hb1.size (fun x e => by cases e; exact Nat.le_refl _)
  have hG3 : Hd w3 := hg1.grownX hgr hgp
  obtain ⟨xR, cR, rfl, _, _, _⟩ := id hS.reqs
  obtain ⟨xC, cC, rfl, _, _, _⟩ := id hS.cars.row
  obtain ⟨xL, cL, rfl, _, _, _⟩ := id hS.lots
  obtain ⟨xD, cD, rfl, _, _⟩ := id hS.draws
  simp only [List.length_map] at hS hpl hds ⊢
  clear hD1 hT1 hR1 hb1 hg1 hgr ha hb hc
  go_upto_region 2 with fail
  obtain ⟨g, hgq⟩ : ∃ g, g = w3.heap.size := ⟨_, rfl⟩
  rw [← hgq]
  obtain ⟨w4, hw4⟩ : ∃ w4, w3.alloc (.cells #[.slice xR s.reqs.length cR, .slice xC us.length cC, .slice xL s.lots.length cL, .int .i64 s.cm, .int .i64 s.rv, .int .i64 s.sch, .slice xD s.draws cD] 33) = w4 := ⟨_, rfl⟩
  have hb4 : Below w3.heap.size w3 w4 := by rw [← hw4]; exact belowAX _ _
  have hX4 : At w4 g 33 #[.slice xR s.reqs.length cR, .slice xC us.length cC, .slice xL s.lots.length cL, .int .i64 s.cm, .int .i64 s.rv, .int .i64 s.sch, .slice xD s.draws cD] := by rw [← hw4]; exact At.new_ _ _ _ hgq
  rw [hw4]
  clear hw4 hgq
  have hT4 := hT3.keep hb4 hT3.inside
  have hR4 := hR3.keep hb4 hR3.inside
  have hB4 := hB3.trans (hb4.mono hB3.size)
  have hG4 := hG3.keep hb4 hG3.pos
  have hS4 := (hS.keep hb4 (Nat.le_refl _)).more hb4.size
  have hds4 : ∃ ds : List Value, ds.length = s.draws ∧ RowB w4.heap.size w4 (.slice xD s.draws cD) 1 (ds.map fun d => [d]) ∧ ∀ d ∈ ds, d.oneCell' = true := by
    obtain ⟨ds, h1, h2, h3⟩ := hds
    exact ⟨ds, h1, (h2.keep hb4 (Nat.le_refl _)).more hb4.size, h3⟩
  have hfair := drawn_fair hdr
  have hc8 := hdr.cnum
  have hr64 := hdr.num
  clear hS hds hT3 hR3 hB3 hG3 hb4
  have hTi := hT4.inside
  have hRi := hR4.inside
  have hXi := hX4.inside
  refine Sched.wp_region_schedA 8 (fun W W' => Below W.heap.size W W') (V2 (.slice xR s.reqs.length cR) (.slice xC us.length cC) (.slice xL s.lots.length cL) (.int .i64 s.cm) (.int .i64 s.rv) (.int .i64 s.sch) (.slice xD s.draws cD) (.agg #[.int .u8 wh, .int .u8 ax, .int .i64 N]) (.agg #[.slice yR q.reqs.length eR, .slice yC uq.length eC, .slice yL q.lots.length eL, .int .i64 q.cm, .int .i64 q.rv, .int .i64 q.sch, .slice yD q.draws eD])) (fun _ _ _ => True) rfl (by kernel_rfl) (by kernel_rfl) (by kernel_rfl) (by kernel_rfl) (fun h1 h2 => belowTr h1 h2) (fun h1 h2 => V2.keep h1 h2) (Below.refl _ _).drew (fun _ => trivial) (Sched.StepsA.steps (by kernel_rfl) ?hS2) ?hQ2
  case hS2 =>
   simp only [List.take_succ_cons, List.take_zero]
   refine ⟨?_, ?_, ?_, ?_, ?_, ?_, ?_, ?_, trivial⟩
   · intro ys done W aa hE hn hF hD hZ hG hO
     replace hE : Below w4.heap.size w4 W := hE
     have o1 := hO 7 (by kernel_rfl)
     replace o1 : aa.tmps[7]? = some (.pointer (some ⟨g, 0, none⟩)) := o1
     have p0 := (hX4.keep hE hXi).cell 0
     have p1 := (hX4.keep hE hXi).cell 1
     have p2 := (hX4.keep hE hXi).cell 2
     have p3 := (hX4.keep hE hXi).cell 3
     have p4 := (hX4.keep hE hXi).cell 4
     have p5 := (hX4.keep hE hXi).cell 5
     have p6 := (hX4.keep hE hXi).cell 6
     simp at p0 p1 p2 p3 p4 p5 p6
     go_wp2_with fail
     first | exact ⟨_, rfl, Below.refl _ _, rfl, trivial⟩ | exact ⟨_, rfl, Below.refl _ _, rfl⟩
   · intro ys done W aa hE hn hF hD hZ hG hO
     replace hE : Below w4.heap.size w4 W := hE
     have o1 := hO 4 (by kernel_rfl)
     replace o1 : aa.tmps[4]? = some (.pointer (some ⟨w.heap.size + 1, 0, none⟩)) := o1
     have p0 := (hT4.keep hE hTi).cell 0
     have p1 := (hT4.keep hE hTi).cell 1
     have p2 := (hT4.keep hE hTi).cell 2
     simp at p0 p1 p2
     go_wp2_with fail
     first | exact ⟨_, rfl, Below.refl _ _, rfl, trivial⟩ | exact ⟨_, rfl, Below.refl _ _, rfl⟩
   · intro ys done W aa hE hn hF hD hZ hG hO
     replace hE : Below w4.heap.size w4 W := hE
     have o1 := hO 7 (by kernel_rfl)
     replace o1 : aa.tmps[7]? = some (.pointer (some ⟨g, 0, none⟩)) := o1
     have p0 := (hX4.keep hE hXi).cell 0
     have p1 := (hX4.keep hE hXi).cell 1
     have p2 := (hX4.keep hE hXi).cell 2
     have p3 := (hX4.keep hE hXi).cell 3
     have p4 := (hX4.keep hE hXi).cell 4
     have p5 := (hX4.keep hE hXi).cell 5
     have p6 := (hX4.keep hE hXi).cell 6
     simp at p0 p1 p2 p3 p4 p5 p6
     go_wp2_with fail
     first | exact ⟨_, rfl, Below.refl _ _, rfl, trivial⟩ | exact ⟨_, rfl, Below.refl _ _, rfl⟩
   · intro ys done W aa hE hn hF hD hZ hG hO
     replace hE : Below w4.heap.size w4 W := hE
     have v1 := hF 1 (by decide) (hD 1 (by kernel_rfl))
     replace v1 : ys 1 = .agg #[.int .u8 wh, .int .u8 ax, .int .i64 N] := v1
     have g1 := hG 1 12 rfl (Nat.le_of_ble_eq_true rfl)
     rw [v1] at g1
     have v2 := hF 2 (by decide) (hD 2 (by kernel_rfl))
     replace v2 : ys 2 = .agg #[.slice xR s.reqs.length cR, .slice xC us.length cC, .slice xL s.lots.length cL, .int .i64 s.cm, .int .i64 s.rv, .int .i64 s.sch, .slice xD s.draws cD] := v2
     have g2 := hG 2 13 rfl (Nat.le_of_ble_eq_true rfl)
     rw [v2] at g2
     have hds5 : ∃ ds : List Value, ds.length = s.draws ∧ RowB W.heap.size W (.slice xD s.draws cD) 1 (ds.map fun d => [d]) ∧ ∀ d ∈ ds, d.oneCell' = true := by
       obtain ⟨ds, h1, h2, h3⟩ := hds4
       exact ⟨ds, h1, (h2.keep hE (Nat.le_refl _)).more hE.size, h3⟩
     go_wp2_with fail
     refine (turnone_any W wh ax N hwh hax hN _ _ _ _ us s ((hS4.keep hE (Nat.le_refl _)).more hE.size) hds5 hpl hdr).mono ?_
     rintro e W' ⟨⟨tR, tC, tL, tD, tu, ts, rfl, h1, h2, h3, h4⟩, hb'⟩
     have hI3 : IsSc (.agg #[tR, tC, tL, .int .i64 ts.cm, .int .i64 ts.rv, .int .i64 ts.sch, tD]) W' := ⟨_, _, _, _, _, _, rfl, h1, h2, h3, h4⟩
     replace hI3 := Lib.hid hI3
     replace hb' := Lib.hid hb'
     clear h1 h2 h3 h4
     go_wp2_with fail
     first | exact ⟨_, rfl, hb'.out, hI3.out, trivial⟩ | exact ⟨_, rfl, hb'.out, hI3.out⟩
   · intro ys done W aa hE hn hF hD hZ hG hO
     replace hE : Below w4.heap.size w4 W := hE
     have o1 := hO 5 (by kernel_rfl)
     replace o1 : aa.tmps[5]? = some (.pointer (some ⟨w.heap.size + 1 + 1, 0, none⟩)) := o1
     have p0 := (hR4.keep hE hRi).cell 0
     have p1 := (hR4.keep hE hRi).cell 1
     have p2 := (hR4.keep hE hRi).cell 2
     have p3 := (hR4.keep hE hRi).cell 3
     have p4 := (hR4.keep hE hRi).cell 4
     have p5 := (hR4.keep hE hRi).cell 5
     have p6 := (hR4.keep hE hRi).cell 6
     simp at p0 p1 p2 p3 p4 p5 p6
     go_wp2_with fail
     first | exact ⟨_, rfl, Below.refl _ _, rfl, trivial⟩ | exact ⟨_, rfl, Below.refl _ _, rfl⟩
   · intro ys done W aa hE hn hF hD hZ hG hO
     replace hE : Below w4.heap.size w4 W := hE
     have v4 := hF 4 (by decide) (hD 4 (by kernel_rfl))
     replace v4 : ys 4 = .agg #[.slice yR q.reqs.length eR, .slice yC uq.length eC, .slice yL q.lots.length eL, .int .i64 q.cm, .int .i64 q.rv, .int .i64 q.sch, .slice yD q.draws eD] := v4
     have g4 := hG 4 15 rfl (Nat.le_of_ble_eq_true rfl)
     rw [v4] at g4
     have hbw := hB4.trans (hE.mono hB4.size)
     go_wp2_with fail
     refine (cut_any W q.cm q.rv q.sch _ _ _ _ uq q ⟨rfl, rfl, rfl⟩ ((hQ'.out.keep hbw (Nat.le_refl _)).more hbw.size) hq1'.out hq2'.out).mono ?_
     rintro e W' ⟨⟨tR, tC, tL, tD, tu, ts, rfl, h1, h2, h3, h4⟩, hb'⟩
     have hI3 : IsSc (.agg #[tR, tC, tL, .int .i64 ts.cm, .int .i64 ts.rv, .int .i64 ts.sch, tD]) W' := ⟨_, _, _, _, _, _, rfl, h1, h2, h3, h4⟩
     replace hI3 := Lib.hid hI3
     replace hb' := Lib.hid hb'
     clear h1 h2 h3 h4
     go_wp2_with fail
     first | exact ⟨_, rfl, hb'.out, hI3.out, trivial⟩ | exact ⟨_, rfl, hb'.out, hI3.out⟩
   · intro ys done W aa hE hn hF hD hZ hG hO
     replace hE : Below w4.heap.size w4 W := hE
     have v0 := hF 0 (by decide) (hD 0 (by kernel_rfl))
     replace v0 : ys 0 = .agg #[.slice xR s.reqs.length cR, .slice xC us.length cC, .slice xL s.lots.length cL, .int .i64 s.cm, .int .i64 s.rv, .int .i64 s.sch, .slice xD s.draws cD] := v0
     have g0 := hG 0 11 rfl (Nat.le_of_ble_eq_true rfl)
     rw [v0] at g0
     obtain ⟨R3, C3, L3, D3, u3, s3, e3, k3⟩ : IsSc (ys 3) W := hF 3 (by decide) (hD 3 (by kernel_rfl))
     have g3 := hG 3 14 rfl (Nat.le_of_ble_eq_true rfl)
     rw [e3] at g3
     obtain ⟨R5, C5, L5, D5, u5, s5, e5, k5⟩ : IsSc (ys 5) W := hF 5 (by decide) (hD 5 (by kernel_rfl))
     have g5 := hG 5 16 rfl (Nat.le_of_ble_eq_true rfl)
     rw [e5] at g5
     go_wp2_with fail
     exact ⟨_, rfl, Below.refl _ _, ⟨_, _, _, _, _, _, _, _, _, _, _, _, _, _, ⟨R3, C3, L3, D3, u3, s3, rfl, k3⟩, ⟨R5, C5, L5, D5, u5, s5, rfl, k5⟩, rfl⟩⟩
   · intro ys done W aa hE hn hF hD hZ hG hO
     replace hE : Below w4.heap.size w4 W := hE
     go_wp2_with fail
     first | exact ⟨_, rfl, Below.refl _ _, rfl, trivial⟩ | exact ⟨_, rfl, Below.refl _ _, rfl⟩
  case hQ2 =>
   intro ys w9 hE hF _
   replace hE : Below w4.heap.size w4 w9 := hE
   obtain ⟨b0, b1, b2, b3, b4, b5, b6, c0, c1, c2, c3, c4, c5, c6, hIb, hIc, e6⟩ : ∃ b0 b1 b2 b3 b4 b5 b6 c0 c1 c2 c3 c4 c5 c6 : Value, IsSc (.agg #[b0, b1, b2, b3, b4, b5, b6]) w9 ∧ IsSc (.agg #[c0, c1, c2, c3, c4, c5, c6]) w9 ∧ ys 6 = .agg #[.slice xR s.reqs.length cR, .slice xC us.length cC, .slice xL s.lots.length cL, .int .i64 s.cm, .int .i64 s.rv, .int .i64 s.sch, .slice xD s.draws cD, b0, b1, b2, b3, b4, b5, b6, c0, c1, c2, c3, c4, c5, c6] := hF 6 (by decide)
   have hIa : IsSc (.agg #[.slice xR s.reqs.length cR, .slice xC us.length cC, .slice xL s.lots.length cL, .int .i64 s.cm, .int .i64 s.rv, .int .i64 s.sch, .slice xD s.draws cD]) w9 := ⟨_, _, _, _, us, s, rfl, (hS4.keep hE (Nat.le_refl _)).more hE.size, hfair, by omega, by omega⟩
   have hSa := (hS4.keep hE (Nat.le_refl _)).more hE.size
   have hfa := hfair
   have v7 : ys 7 = .int .i64 0 := hF 7 (by decide)
   simp only [List.take_succ_cons, List.take_zero, List.drop_succ_cons, List.drop_zero, Sched.fill, e6, v7]
   have hB9 := hB4.trans (hE.mono hB4.size)
   have hG9 := hG4.keep hE hG4.pos
   clear hF e6 v7 hE hS4 hds4 hX4 hT4 hR4 hB4 hG4 hfair hpl hdr
   go_simp

   go_wp2_with fail
   go_loopw [18] (fun v ws => LpT w9 v ws) (fun v _ => 3 - (intOf v).toNat)
   case atStart => exact LpT.mk_ 0 rfl (by omega) (Below.refl _ _)
   case round =>
     obtain ⟨k2, rfl, hk, hbw⟩ := hrel
     have hcase : k2 = 0 ∨ k2 = 1 ∨ k2 = 2 ∨ k2 = 3 := by omega
     rcases hcase with rfl | rfl | rfl | rfl
     · skip
       simp only [show ((0 : Nat) : Int) = 0 from rfl]
       obtain ⟨vR1, vC1, vL1, vD1, us1, s1, hS1, hf1, hr1, hc1, hcell⟩ : ∃ vR1 vC1 vL1 vD1 us1 s1, SceneAt w9.heap.size w9 vR1 vC1 vL1 vD1 us1 s1 ∧ Fair s1 ∧ s1.reqs.length ≤ 100 ∧ s1.cars.length ≤ 100 ∧ (#[.slice xR s.reqs.length cR, .slice xC us.length cC, .slice xL s.lots.length cL, .int .i64 s.cm, .int .i64 s.rv, .int .i64 s.sch, .slice xD s.draws cD] : Array Value) = #[vR1, vC1, vL1, .int .i64 s1.cm, .int .i64 s1.rv, .int .i64 s1.sch, vD1] := ⟨_, _, _, _, us, s, hSa, hfa, by omega, by omega, rfl⟩
       have ix : ∀ W, (Instr.index 36 (.agg #[.slice xR s.reqs.length cR, .slice xC us.length cC, .slice xL s.lots.length cL, .int .i64 s.cm, .int .i64 s.rv, .int .i64 s.sch, .slice xD s.draws cD, b0, b1, b2, b3, b4, b5, b6, c0, c1, c2, c3, c4, c5, c6]) (.int .i64 0)).run Tryd.prog W = .ok (.agg #[vR1, vC1, vL1, .int .i64 s1.cm, .int .i64 s1.rv, .int .i64 s1.sch, vD1]) W := fun W => by
         rw [← hcell]
         kernel_rfl
       have hS2 := (hS1.keep hbw (Nat.le_refl _)).more hbw.size
       obtain ⟨x1, d1, rfl, _, _, _⟩ := id hS2.reqs
       obtain ⟨x2, d2, rfl, _, _, _⟩ := id hS2.cars.row
       obtain ⟨x3, d3, rfl, _, _, _⟩ := id hS2.lots
       obtain ⟨x4, d4, rfl, _, _⟩ := id hS2.draws
       simp only [List.length_map] at hS2 ix
       clear hcell hS1
       go_upto_region 5 with fail
       clear ix
       obtain ⟨g5, hg5⟩ : ∃ g5, g5 = wr.heap.size := ⟨_, rfl⟩
       rw [← hg5]
       obtain ⟨w10, hw10⟩ : ∃ w10, wr.alloc (.cells #[.slice x1 s1.reqs.length d1, .slice x2 us1.length d2, .slice x3 s1.lots.length d3, .int .i64 s1.cm, .int .i64 s1.rv, .int .i64 s1.sch, .slice x4 s1.draws d4] 33) = w10 := ⟨_, rfl⟩
       have hX10 : At w10 g5 33 #[.slice x1 s1.reqs.length d1, .slice x2 us1.length d2, .slice x3 s1.lots.length d3, .int .i64 s1.cm, .int .i64 s1.rv, .int .i64 s1.sch, .slice x4 s1.draws d4] := by rw [← hw10]; exact At.new_ _ _ _ hg5
       have hb10 : Below wr.heap.size wr w10 := by rw [← hw10]; exact belowAX _ _
       rw [hw10]
       clear hw10 hg5
       have hS10 := (hS2.keep hb10 (Nat.le_refl _)).more hb10.size
       have hbw10 := belowTr hbw hb10
       have hG10 := hG9.keep hbw10 hG9.pos
       have hXi10 := hX10.inside
       clear hS2 hb10
       refine Sched.wp_region_sched 13 (fun W W' => Below W.heap.size W W') (V5t (.agg #[.slice x1 s1.reqs.length d1, .slice x2 us1.length d2, .slice x3 s1.lots.length d3, .int .i64 s1.cm, .int .i64 s1.rv, .int .i64 s1.sch, .slice x4 s1.draws d4]) s1) (fun _ _ _ => True) (by kernel_rfl) (by kernel_rfl) (by kernel_rfl) (fun h1 h2 => belowTr h1 h2) (fun h1 h2 => V5t.keep h1 h2) (Below.refl _ _).drew (fun _ => trivial) (Sched.StepsA.steps (by kernel_rfl) ?hS50) ?hQ50
       case hS50 =>
        simp only [List.take_succ_cons, List.take_zero]
        refine ⟨?_, ?_, ?_, ?_, ?_, ?_, ?_, ?_, ?_, ?_, ?_, ?_, ?_, trivial⟩
        · intro ys done W aa hE hn hF hD hZ hG hO
          replace hE : Below w10.heap.size w10 W := hE
          have o1 := hO 9 (by kernel_rfl)
          replace o1 : aa.tmps[9]? = some (.pointer (some ⟨g5, 0, none⟩)) := o1
          have p0 := (hX10.keep hE hXi10).cell 0
          have p1 := (hX10.keep hE hXi10).cell 1
          have p2 := (hX10.keep hE hXi10).cell 2
          have p3 := (hX10.keep hE hXi10).cell 3
          have p4 := (hX10.keep hE hXi10).cell 4
          have p5 := (hX10.keep hE hXi10).cell 5
          have p6 := (hX10.keep hE hXi10).cell 6
          simp at p0 p1 p2 p3 p4 p5 p6
          go_wp2_with fail
          first | exact ⟨_, rfl, Below.refl _ _, rfl, trivial⟩ | exact ⟨_, rfl, Below.refl _ _, rfl⟩
        · intro ys done W aa hE hn hF hD hZ hG hO
          replace hE : Below w10.heap.size w10 W := hE
          have v0 := hF 0 (by decide) (hD 0 (by kernel_rfl))
          replace v0 : ys 0 = .agg #[.slice x1 s1.reqs.length d1, .slice x2 us1.length d2, .slice x3 s1.lots.length d3, .int .i64 s1.cm, .int .i64 s1.rv, .int .i64 s1.sch, .slice x4 s1.draws d4] := v0
          have g0 := hG 0 21 rfl (Nat.le_of_ble_eq_true rfl)
          rw [v0] at g0
          have hSW := (hS10.keep hE (Nat.le_refl _)).more hE.size
          go_wp2_with fail
          refine (Check_any s1 hf1 _ _ _ _ us1 _ hSW).mono ?_
          rintro e W' ⟨⟨u, rfl, hu⟩, hb'⟩
          replace hu := Lib.hid hu
          replace hb' := Lib.hid hb'
          go_wp2_with fail
          first | exact ⟨_, rfl, hb'.out, hu.out, trivial⟩ | exact ⟨_, rfl, hb'.out, hu.out⟩
        · intro ys done W aa hE hn hF hD hZ hG hO
          replace hE : Below w10.heap.size w10 W := hE
          have o1 := hO 9 (by kernel_rfl)
          replace o1 : aa.tmps[9]? = some (.pointer (some ⟨g5, 0, none⟩)) := o1
          have p0 := (hX10.keep hE hXi10).cell 0
          have p1 := (hX10.keep hE hXi10).cell 1
          have p2 := (hX10.keep hE hXi10).cell 2
          have p3 := (hX10.keep hE hXi10).cell 3
          have p4 := (hX10.keep hE hXi10).cell 4
          have p5 := (hX10.keep hE hXi10).cell 5
          have p6 := (hX10.keep hE hXi10).cell 6
          simp at p0 p1 p2 p3 p4 p5 p6
          go_wp2_with fail
          first | exact ⟨_, rfl, Below.refl _ _, rfl, trivial⟩ | exact ⟨_, rfl, Below.refl _ _, rfl⟩
        · intro ys done W aa hE hn hF hD hZ hG hO
          replace hE : Below w10.heap.size w10 W := hE
          have v2 := hF 2 (by decide) (hD 2 (by kernel_rfl))
          replace v2 : ys 2 = .agg #[.slice x1 s1.reqs.length d1, .slice x2 us1.length d2, .slice x3 s1.lots.length d3, .int .i64 s1.cm, .int .i64 s1.rv, .int .i64 s1.sch, .slice x4 s1.draws d4] := v2
          have g2 := hG 2 23 rfl (Nat.le_of_ble_eq_true rfl)
          rw [v2] at g2
          have hSW := (hS10.keep hE (Nat.le_refl _)).more hE.size
          go_wp2_with fail
          refine (refCheck_any s1 _ _ _ _ us1 _ _ (Nat.le_refl _) hSW (by omega) (by omega)).mono ?_
          rintro e W' ⟨rfl, hb'⟩
          replace hb' := Lib.hid hb'
          go_wp2_with fail
          first | exact ⟨_, rfl, hb'.out, rfl, trivial⟩ | exact ⟨_, rfl, hb'.out, rfl⟩
        · intro ys done W aa hE hn hF hD hZ hG hO
          replace hE : Below w10.heap.size w10 W := hE
          have v1 : ErrAt W (ys 1) (faultV s1) := hF 1 (by decide) (hD 1 (by kernel_rfl))
          have g1 := hG 1 22 rfl (Nat.le_of_ble_eq_true rfl)
          have v3 := hF 3 (by decide) (hD 3 (by kernel_rfl))
          replace v3 : ys 3 = faultOf (faultV s1) := v3
          have g3 := hG 3 24 rfl (Nat.le_of_ble_eq_true rfl)
          rw [v3] at g3
          have hGW := hG10.keep hE hG10.pos
          go_wp2_with fail
          refine (told_yes _ (faultV s1) _ hGW v1 firstBad_code).mono ?_
          rintro e W' ⟨rfl, hb'⟩
          replace hb' := Lib.hid hb'
          go_wp2_with fail
          first | exact ⟨_, rfl, hb'.out, rfl, trivial⟩ | exact ⟨_, rfl, hb'.out, rfl⟩
        · intro ys done W aa hE hn hF hD hZ hG hO
          replace hE : Below w10.heap.size w10 W := hE
          have v4 := hF 4 (by decide) (hD 4 (by kernel_rfl))
          replace v4 : ys 4 = .bool true := v4
          have g4 := hG 4 25 rfl (Nat.le_of_ble_eq_true rfl)
          rw [v4] at g4
          go_wp2_with fail
          first | exact ⟨_, rfl, Below.refl _ _, rfl, trivial⟩ | exact ⟨_, rfl, Below.refl _ _, rfl⟩
        · intro ys done W aa hE hn hF hD hZ hG hO
          replace hE : Below w10.heap.size w10 W := hE
          have v5 := hF 5 (by decide) (hD 5 (by kernel_rfl))
          replace v5 : ys 5 = .bool false := v5
          have g5 := hG 5 26 rfl (Nat.le_of_ble_eq_true rfl)
          rw [v5] at g5
          go_wp2_with fail
          first | exact ⟨_, rfl, Below.refl _ _, rfl, trivial⟩ | exact ⟨_, rfl, Below.refl _ _, rfl⟩
        · intro ys done W aa hE hn hF hD hZ hG hO
          replace hE : Below w10.heap.size w10 W := hE
          have g6 := hG 6 27 rfl (Nat.le_of_ble_eq_true rfl)
          have v6 := hF 6 (by decide) (hD 6 (by kernel_rfl))
          replace v6 : ys 6 = .bool false := v6
          rw [v6] at g6
          refine BigFrame.wpList_want (by simp [Region.wanted, yielded, g6]) ?_
          intro K hK
          have o1 := hO 9 (by kernel_rfl)
          replace o1 : aa.tmps[9]? = some (.pointer (some ⟨g5, 0, none⟩)) := o1
          have p0 := (hX10.keep hE hXi10).cell 0
          have p1 := (hX10.keep hE hXi10).cell 1
          have p2 := (hX10.keep hE hXi10).cell 2
          have p3 := (hX10.keep hE hXi10).cell 3
          have p4 := (hX10.keep hE hXi10).cell 4
          have p5 := (hX10.keep hE hXi10).cell 5
          have p6 := (hX10.keep hE hXi10).cell 6
          simp at p0 p1 p2 p3 p4 p5 p6
          go_wp2_with fail
          first | exact ⟨_, rfl, Below.refl _ _, rfl, trivial⟩ | exact ⟨_, rfl, Below.refl _ _, rfl⟩
        · intro ys done W aa hE hn hF hD hZ hG hO
          replace hE : Below w10.heap.size w10 W := hE
          have g6 := hG 6 27 rfl (Nat.le_of_ble_eq_true rfl)
          have v6 := hF 6 (by decide) (hD 6 (by kernel_rfl))
          replace v6 : ys 6 = .bool false := v6
          rw [v6] at g6
          refine BigFrame.wpList_want (by simp [Region.wanted, yielded, g6]) ?_
          intro K hK
          have v7 := hF 7 (by decide) (hD 7 (by kernel_rfl))
          replace v7 : ys 7 = .agg #[.slice x1 s1.reqs.length d1, .slice x2 us1.length d2, .slice x3 s1.lots.length d3, .int .i64 s1.cm, .int .i64 s1.rv, .int .i64 s1.sch, .slice x4 s1.draws d4] := v7
          have g7 := hG 7 28 rfl (Nat.le_of_ble_eq_true rfl)
          rw [v7] at g7
          have hSW := (hS10.keep hE (Nat.le_refl _)).more hE.size
          go_wp2_with fail
          refine (Owners_any s1 hf1 _ _ _ _ us1 _ _ _ (by omega) _ hSW).mono ?_
          rintro e W' ⟨⟨u, rfl, hu⟩, hb'⟩
          replace hu := Lib.hid hu
          replace hb' := Lib.hid hb'
          go_wp2_with fail
          first | exact ⟨_, rfl, hb'.out, hu.out, trivial⟩ | exact ⟨_, rfl, hb'.out, hu.out⟩
        · intro ys done W aa hE hn hF hD hZ hG hO
          replace hE : Below w10.heap.size w10 W := hE
          have g6 := hG 6 27 rfl (Nat.le_of_ble_eq_true rfl)
          have v6 := hF 6 (by decide) (hD 6 (by kernel_rfl))
          replace v6 : ys 6 = .bool false := v6
          rw [v6] at g6
          refine BigFrame.wpList_want (by simp [Region.wanted, yielded, g6]) ?_
          intro K hK
          have o1 := hO 9 (by kernel_rfl)
          replace o1 : aa.tmps[9]? = some (.pointer (some ⟨g5, 0, none⟩)) := o1
          have p0 := (hX10.keep hE hXi10).cell 0
          have p1 := (hX10.keep hE hXi10).cell 1
          have p2 := (hX10.keep hE hXi10).cell 2
          have p3 := (hX10.keep hE hXi10).cell 3
          have p4 := (hX10.keep hE hXi10).cell 4
          have p5 := (hX10.keep hE hXi10).cell 5
          have p6 := (hX10.keep hE hXi10).cell 6
          simp at p0 p1 p2 p3 p4 p5 p6
          go_wp2_with fail
          first | exact ⟨_, rfl, Below.refl _ _, rfl, trivial⟩ | exact ⟨_, rfl, Below.refl _ _, rfl⟩
        · intro ys done W aa hE hn hF hD hZ hG hO
          replace hE : Below w10.heap.size w10 W := hE
          have g6 := hG 6 27 rfl (Nat.le_of_ble_eq_true rfl)
          have v6 := hF 6 (by decide) (hD 6 (by kernel_rfl))
          replace v6 : ys 6 = .bool false := v6
          rw [v6] at g6
          refine BigFrame.wpList_want (by simp [Region.wanted, yielded, g6]) ?_
          intro K hK
          have v9 := hF 9 (by decide) (hD 9 (by kernel_rfl))
          replace v9 : ys 9 = .agg #[.slice x1 s1.reqs.length d1, .slice x2 us1.length d2, .slice x3 s1.lots.length d3, .int .i64 s1.cm, .int .i64 s1.rv, .int .i64 s1.sch, .slice x4 s1.draws d4] := v9
          have g9 := hG 9 30 rfl (Nat.le_of_ble_eq_true rfl)
          rw [v9] at g9
          have hSW := (hS10.keep hE (Nat.le_refl _)).more hE.size
          go_wp2_with fail
          refine (refOwners_any s1 _ _ _ _ us1 _ _ _ (by omega) (by omega) _ hSW).mono ?_
          rintro e W' ⟨⟨u, rfl, hu⟩, hb'⟩
          replace hu := Lib.hid hu
          replace hb' := Lib.hid hb'
          go_wp2_with fail
          first | exact ⟨_, rfl, hb'.out, hu.out, trivial⟩ | exact ⟨_, rfl, hb'.out, hu.out⟩
        · intro ys done W aa hE hn hF hD hZ hG hO
          replace hE : Below w10.heap.size w10 W := hE
          have g6 := hG 6 27 rfl (Nat.le_of_ble_eq_true rfl)
          have v6 := hF 6 (by decide) (hD 6 (by kernel_rfl))
          replace v6 : ys 6 = .bool false := v6
          rw [v6] at g6
          refine BigFrame.wpList_want (by simp [Region.wanted, yielded, g6]) ?_
          intro K hK
          have v8 : RowB W.heap.size W (ys 8) 1 ((ownersL s1).map inV) := hF 8 (by decide) (hD 8 (by kernel_rfl))
          have g8 := hG 8 29 rfl (Nat.le_of_ble_eq_true rfl)
          have v10 : RowB W.heap.size W (ys 10) 1 ((ownersL s1).map inV) := hF 10 (by decide) (hD 10 (by kernel_rfl))
          have g10 := hG 10 31 rfl (Nat.le_of_ble_eq_true rfl)
          go_wp2_with fail
          refine (ints_yes _ _ (ownersL s1) _ v8 v10).mono ?_
          rintro e W' ⟨rfl, hb'⟩
          replace hb' := Lib.hid hb'
          go_wp2_with fail
          first | exact ⟨_, rfl, hb'.out, rfl, trivial⟩ | exact ⟨_, rfl, hb'.out, rfl⟩
        · intro ys done W aa hE hn hF hD hZ hG hO
          replace hE : Below w10.heap.size w10 W := hE
          have g6 := hG 6 27 rfl (Nat.le_of_ble_eq_true rfl)
          have v6 := hF 6 (by decide) (hD 6 (by kernel_rfl))
          replace v6 : ys 6 = .bool false := v6
          rw [v6] at g6
          refine BigFrame.wpList_want (by simp [Region.wanted, yielded, g6]) ?_
          intro K hK
          have v11 := hF 11 (by decide) (hD 11 (by kernel_rfl))
          replace v11 : ys 11 = .bool true := v11
          have g11 := hG 11 32 rfl (Nat.le_of_ble_eq_true rfl)
          rw [v11] at g11
          go_wp2_with fail
          first | exact ⟨_, rfl, Below.refl _ _, rfl, trivial⟩ | exact ⟨_, rfl, Below.refl _ _, rfl⟩
       case hQ50 =>
        intro ys W hE hF _
        replace hE : Below w10.heap.size w10 W := hE
        have v6 : ys 6 = .bool false := hF 6 (by decide)
        have v12 : ys 12 = .bool false := hF 12 (by decide)
        simp only [List.take_succ_cons, List.take_zero, List.drop_succ_cons, List.drop_zero, Sched.fill, v6, v12]
        have hbn := belowTr hbw10 hE
        clear hF v6 v12 hE hX10 hS10 hG10 hbw10
        go_simp
        go_wp2_with fail
        go_roundw
        case rel => exact LpT.mk_ 1 (by go_num) (by omega) hbn
        case measure => simp [intOf]
     · skip
       simp only [show ((1 : Nat) : Int) = 1 from rfl]
       obtain ⟨vR1, vC1, vL1, vD1, us1, s1, he1, hS1, hf1, hr1, hc1⟩ := hIb
       have hcell : (#[b0, b1, b2, b3, b4, b5, b6] : Array Value) = #[vR1, vC1, vL1, .int .i64 s1.cm, .int .i64 s1.rv, .int .i64 s1.sch, vD1] := Value.agg.inj he1
       have ix : ∀ W, (Instr.index 36 (.agg #[.slice xR s.reqs.length cR, .slice xC us.length cC, .slice xL s.lots.length cL, .int .i64 s.cm, .int .i64 s.rv, .int .i64 s.sch, .slice xD s.draws cD, b0, b1, b2, b3, b4, b5, b6, c0, c1, c2, c3, c4, c5, c6]) (.int .i64 1)).run Tryd.prog W = .ok (.agg #[vR1, vC1, vL1, .int .i64 s1.cm, .int .i64 s1.rv, .int .i64 s1.sch, vD1]) W := fun W => by
         rw [← hcell]
         kernel_rfl
       have hS2 := (hS1.keep hbw (Nat.le_refl _)).more hbw.size
       obtain ⟨x1, d1, rfl, _, _, _⟩ := id hS2.reqs
       obtain ⟨x2, d2, rfl, _, _, _⟩ := id hS2.cars.row
       obtain ⟨x3, d3, rfl, _, _, _⟩ := id hS2.lots
       obtain ⟨x4, d4, rfl, _, _⟩ := id hS2.draws
       simp only [List.length_map] at hS2 ix
       clear hcell hS1 he1
       go_upto_region 5 with fail
       clear ix
       obtain ⟨g5, hg5⟩ : ∃ g5, g5 = wr.heap.size := ⟨_, rfl⟩
       rw [← hg5]
       obtain ⟨w10, hw10⟩ : ∃ w10, wr.alloc (.cells #[.slice x1 s1.reqs.length d1, .slice x2 us1.length d2, .slice x3 s1.lots.length d3, .int .i64 s1.cm, .int .i64 s1.rv, .int .i64 s1.sch, .slice x4 s1.draws d4] 33) = w10 := ⟨_, rfl⟩
       have hX10 : At w10 g5 33 #[.slice x1 s1.reqs.length d1, .slice x2 us1.length d2, .slice x3 s1.lots.length d3, .int .i64 s1.cm, .int .i64 s1.rv, .int .i64 s1.sch, .slice x4 s1.draws d4] := by rw [← hw10]; exact At.new_ _ _ _ hg5
       have hb10 : Below wr.heap.size wr w10 := by rw [← hw10]; exact belowAX _ _
       rw [hw10]
       clear hw10 hg5
       have hS10 := (hS2.keep hb10 (Nat.le_refl _)).more hb10.size
       have hbw10 := belowTr hbw hb10
       have hG10 := hG9.keep hbw10 hG9.pos
       have hXi10 := hX10.inside
       clear hS2 hb10
       refine Sched.wp_region_sched 13 (fun W W' => Below W.heap.size W W') (V5t (.agg #[.slice x1 s1.reqs.length d1, .slice x2 us1.length d2, .slice x3 s1.lots.length d3, .int .i64 s1.cm, .int .i64 s1.rv, .int .i64 s1.sch, .slice x4 s1.draws d4]) s1) (fun _ _ _ => True) (by kernel_rfl) (by kernel_rfl) (by kernel_rfl) (fun h1 h2 => belowTr h1 h2) (fun h1 h2 => V5t.keep h1 h2) (Below.refl _ _).drew (fun _ => trivial) (Sched.StepsA.steps (by kernel_rfl) ?hS51) ?hQ51
       case hS51 =>
        simp only [List.take_succ_cons, List.take_zero]
        refine ⟨?_, ?_, ?_, ?_, ?_, ?_, ?_, ?_, ?_, ?_, ?_, ?_, ?_, trivial⟩
        · intro ys done W aa hE hn hF hD hZ hG hO
          replace hE : Below w10.heap.size w10 W := hE
          have o1 := hO 9 (by kernel_rfl)
          replace o1 : aa.tmps[9]? = some (.pointer (some ⟨g5, 0, none⟩)) := o1
          have p0 := (hX10.keep hE hXi10).cell 0
          have p1 := (hX10.keep hE hXi10).cell 1
          have p2 := (hX10.keep hE hXi10).cell 2
          have p3 := (hX10.keep hE hXi10).cell 3
          have p4 := (hX10.keep hE hXi10).cell 4
          have p5 := (hX10.keep hE hXi10).cell 5
          have p6 := (hX10.keep hE hXi10).cell 6
          simp at p0 p1 p2 p3 p4 p5 p6
          go_wp2_with fail
          first | exact ⟨_, rfl, Below.refl _ _, rfl, trivial⟩ | exact ⟨_, rfl, Below.refl _ _, rfl⟩
        · intro ys done W aa hE hn hF hD hZ hG hO
          replace hE : Below w10.heap.size w10 W := hE
          have v0 := hF 0 (by decide) (hD 0 (by kernel_rfl))
          replace v0 : ys 0 = .agg #[.slice x1 s1.reqs.length d1, .slice x2 us1.length d2, .slice x3 s1.lots.length d3, .int .i64 s1.cm, .int .i64 s1.rv, .int .i64 s1.sch, .slice x4 s1.draws d4] := v0
          have g0 := hG 0 21 rfl (Nat.le_of_ble_eq_true rfl)
          rw [v0] at g0
          have hSW := (hS10.keep hE (Nat.le_refl _)).more hE.size
          go_wp2_with fail
          refine (Check_any s1 hf1 _ _ _ _ us1 _ hSW).mono ?_
          rintro e W' ⟨⟨u, rfl, hu⟩, hb'⟩
          replace hu := Lib.hid hu
          replace hb' := Lib.hid hb'
          go_wp2_with fail
          first | exact ⟨_, rfl, hb'.out, hu.out, trivial⟩ | exact ⟨_, rfl, hb'.out, hu.out⟩
        · intro ys done W aa hE hn hF hD hZ hG hO
          replace hE : Below w10.heap.size w10 W := hE
          have o1 := hO 9 (by kernel_rfl)
          replace o1 : aa.tmps[9]? = some (.pointer (some ⟨g5, 0, none⟩)) := o1
          have p0 := (hX10.keep hE hXi10).cell 0
          have p1 := (hX10.keep hE hXi10).cell 1
          have p2 := (hX10.keep hE hXi10).cell 2
          have p3 := (hX10.keep hE hXi10).cell 3
          have p4 := (hX10.keep hE hXi10).cell 4
          have p5 := (hX10.keep hE hXi10).cell 5
          have p6 := (hX10.keep hE hXi10).cell 6
          simp at p0 p1 p2 p3 p4 p5 p6
          go_wp2_with fail
          first | exact ⟨_, rfl, Below.refl _ _, rfl, trivial⟩ | exact ⟨_, rfl, Below.refl _ _, rfl⟩
        · intro ys done W aa hE hn hF hD hZ hG hO
          replace hE : Below w10.heap.size w10 W := hE
          have v2 := hF 2 (by decide) (hD 2 (by kernel_rfl))
          replace v2 : ys 2 = .agg #[.slice x1 s1.reqs.length d1, .slice x2 us1.length d2, .slice x3 s1.lots.length d3, .int .i64 s1.cm, .int .i64 s1.rv, .int .i64 s1.sch, .slice x4 s1.draws d4] := v2
          have g2 := hG 2 23 rfl (Nat.le_of_ble_eq_true rfl)
          rw [v2] at g2
          have hSW := (hS10.keep hE (Nat.le_refl _)).more hE.size
          go_wp2_with fail
          refine (refCheck_any s1 _ _ _ _ us1 _ _ (Nat.le_refl _) hSW (by omega) (by omega)).mono ?_
          rintro e W' ⟨rfl, hb'⟩
          replace hb' := Lib.hid hb'
          go_wp2_with fail
          first | exact ⟨_, rfl, hb'.out, rfl, trivial⟩ | exact ⟨_, rfl, hb'.out, rfl⟩
        · intro ys done W aa hE hn hF hD hZ hG hO
          replace hE : Below w10.heap.size w10 W := hE
          have v1 : ErrAt W (ys 1) (faultV s1) := hF 1 (by decide) (hD 1 (by kernel_rfl))
          have g1 := hG 1 22 rfl (Nat.le_of_ble_eq_true rfl)
          have v3 := hF 3 (by decide) (hD 3 (by kernel_rfl))
          replace v3 : ys 3 = faultOf (faultV s1) := v3
          have g3 := hG 3 24 rfl (Nat.le_of_ble_eq_true rfl)
          rw [v3] at g3
          have hGW := hG10.keep hE hG10.pos
          go_wp2_with fail
          refine (told_yes _ (faultV s1) _ hGW v1 firstBad_code).mono ?_
          rintro e W' ⟨rfl, hb'⟩
          replace hb' := Lib.hid hb'
          go_wp2_with fail
          first | exact ⟨_, rfl, hb'.out, rfl, trivial⟩ | exact ⟨_, rfl, hb'.out, rfl⟩
        · intro ys done W aa hE hn hF hD hZ hG hO
          replace hE : Below w10.heap.size w10 W := hE
          have v4 := hF 4 (by decide) (hD 4 (by kernel_rfl))
          replace v4 : ys 4 = .bool true := v4
          have g4 := hG 4 25 rfl (Nat.le_of_ble_eq_true rfl)
          rw [v4] at g4
          go_wp2_with fail
          first | exact ⟨_, rfl, Below.refl _ _, rfl, trivial⟩ | exact ⟨_, rfl, Below.refl _ _, rfl⟩
        · intro ys done W aa hE hn hF hD hZ hG hO
          replace hE : Below w10.heap.size w10 W := hE
          have v5 := hF 5 (by decide) (hD 5 (by kernel_rfl))
          replace v5 : ys 5 = .bool false := v5
          have g5 := hG 5 26 rfl (Nat.le_of_ble_eq_true rfl)
          rw [v5] at g5
          go_wp2_with fail
          first | exact ⟨_, rfl, Below.refl _ _, rfl, trivial⟩ | exact ⟨_, rfl, Below.refl _ _, rfl⟩
        · intro ys done W aa hE hn hF hD hZ hG hO
          replace hE : Below w10.heap.size w10 W := hE
          have g6 := hG 6 27 rfl (Nat.le_of_ble_eq_true rfl)
          have v6 := hF 6 (by decide) (hD 6 (by kernel_rfl))
          replace v6 : ys 6 = .bool false := v6
          rw [v6] at g6
          refine BigFrame.wpList_want (by simp [Region.wanted, yielded, g6]) ?_
          intro K hK
          have o1 := hO 9 (by kernel_rfl)
          replace o1 : aa.tmps[9]? = some (.pointer (some ⟨g5, 0, none⟩)) := o1
          have p0 := (hX10.keep hE hXi10).cell 0
          have p1 := (hX10.keep hE hXi10).cell 1
          have p2 := (hX10.keep hE hXi10).cell 2
          have p3 := (hX10.keep hE hXi10).cell 3
          have p4 := (hX10.keep hE hXi10).cell 4
          have p5 := (hX10.keep hE hXi10).cell 5
          have p6 := (hX10.keep hE hXi10).cell 6
          simp at p0 p1 p2 p3 p4 p5 p6
          go_wp2_with fail
          first | exact ⟨_, rfl, Below.refl _ _, rfl, trivial⟩ | exact ⟨_, rfl, Below.refl _ _, rfl⟩
        · intro ys done W aa hE hn hF hD hZ hG hO
          replace hE : Below w10.heap.size w10 W := hE
          have g6 := hG 6 27 rfl (Nat.le_of_ble_eq_true rfl)
          have v6 := hF 6 (by decide) (hD 6 (by kernel_rfl))
          replace v6 : ys 6 = .bool false := v6
          rw [v6] at g6
          refine BigFrame.wpList_want (by simp [Region.wanted, yielded, g6]) ?_
          intro K hK
          have v7 := hF 7 (by decide) (hD 7 (by kernel_rfl))
          replace v7 : ys 7 = .agg #[.slice x1 s1.reqs.length d1, .slice x2 us1.length d2, .slice x3 s1.lots.length d3, .int .i64 s1.cm, .int .i64 s1.rv, .int .i64 s1.sch, .slice x4 s1.draws d4] := v7
          have g7 := hG 7 28 rfl (Nat.le_of_ble_eq_true rfl)
          rw [v7] at g7
          have hSW := (hS10.keep hE (Nat.le_refl _)).more hE.size
          go_wp2_with fail
          refine (Owners_any s1 hf1 _ _ _ _ us1 _ _ _ (by omega) _ hSW).mono ?_
          rintro e W' ⟨⟨u, rfl, hu⟩, hb'⟩
          replace hu := Lib.hid hu
          replace hb' := Lib.hid hb'
          go_wp2_with fail
          first | exact ⟨_, rfl, hb'.out, hu.out, trivial⟩ | exact ⟨_, rfl, hb'.out, hu.out⟩
        · intro ys done W aa hE hn hF hD hZ hG hO
          replace hE : Below w10.heap.size w10 W := hE
          have g6 := hG 6 27 rfl (Nat.le_of_ble_eq_true rfl)
          have v6 := hF 6 (by decide) (hD 6 (by kernel_rfl))
          replace v6 : ys 6 = .bool false := v6
          rw [v6] at g6
          refine BigFrame.wpList_want (by simp [Region.wanted, yielded, g6]) ?_
          intro K hK
          have o1 := hO 9 (by kernel_rfl)
          replace o1 : aa.tmps[9]? = some (.pointer (some ⟨g5, 0, none⟩)) := o1
          have p0 := (hX10.keep hE hXi10).cell 0
          have p1 := (hX10.keep hE hXi10).cell 1
          have p2 := (hX10.keep hE hXi10).cell 2
          have p3 := (hX10.keep hE hXi10).cell 3
          have p4 := (hX10.keep hE hXi10).cell 4
          have p5 := (hX10.keep hE hXi10).cell 5
          have p6 := (hX10.keep hE hXi10).cell 6
          simp at p0 p1 p2 p3 p4 p5 p6
          go_wp2_with fail
          first | exact ⟨_, rfl, Below.refl _ _, rfl, trivial⟩ | exact ⟨_, rfl, Below.refl _ _, rfl⟩
        · intro ys done W aa hE hn hF hD hZ hG hO
          replace hE : Below w10.heap.size w10 W := hE
          have g6 := hG 6 27 rfl (Nat.le_of_ble_eq_true rfl)
          have v6 := hF 6 (by decide) (hD 6 (by kernel_rfl))
          replace v6 : ys 6 = .bool false := v6
          rw [v6] at g6
          refine BigFrame.wpList_want (by simp [Region.wanted, yielded, g6]) ?_
          intro K hK
          have v9 := hF 9 (by decide) (hD 9 (by kernel_rfl))
          replace v9 : ys 9 = .agg #[.slice x1 s1.reqs.length d1, .slice x2 us1.length d2, .slice x3 s1.lots.length d3, .int .i64 s1.cm, .int .i64 s1.rv, .int .i64 s1.sch, .slice x4 s1.draws d4] := v9
          have g9 := hG 9 30 rfl (Nat.le_of_ble_eq_true rfl)
          rw [v9] at g9
          have hSW := (hS10.keep hE (Nat.le_refl _)).more hE.size
          go_wp2_with fail
          refine (refOwners_any s1 _ _ _ _ us1 _ _ _ (by omega) (by omega) _ hSW).mono ?_
          rintro e W' ⟨⟨u, rfl, hu⟩, hb'⟩
          replace hu := Lib.hid hu
          replace hb' := Lib.hid hb'
          go_wp2_with fail
          first | exact ⟨_, rfl, hb'.out, hu.out, trivial⟩ | exact ⟨_, rfl, hb'.out, hu.out⟩
        · intro ys done W aa hE hn hF hD hZ hG hO
          replace hE : Below w10.heap.size w10 W := hE
          have g6 := hG 6 27 rfl (Nat.le_of_ble_eq_true rfl)
          have v6 := hF 6 (by decide) (hD 6 (by kernel_rfl))
          replace v6 : ys 6 = .bool false := v6
          rw [v6] at g6
          refine BigFrame.wpList_want (by simp [Region.wanted, yielded, g6]) ?_
          intro K hK
          have v8 : RowB W.heap.size W (ys 8) 1 ((ownersL s1).map inV) := hF 8 (by decide) (hD 8 (by kernel_rfl))
          have g8 := hG 8 29 rfl (Nat.le_of_ble_eq_true rfl)
          have v10 : RowB W.heap.size W (ys 10) 1 ((ownersL s1).map inV) := hF 10 (by decide) (hD 10 (by kernel_rfl))
          have g10 := hG 10 31 rfl (Nat.le_of_ble_eq_true rfl)
          go_wp2_with fail
          refine (ints_yes _ _ (ownersL s1) _ v8 v10).mono ?_
          rintro e W' ⟨rfl, hb'⟩
          replace hb' := Lib.hid hb'
          go_wp2_with fail
          first | exact ⟨_, rfl, hb'.out, rfl, trivial⟩ | exact ⟨_, rfl, hb'.out, rfl⟩
        · intro ys done W aa hE hn hF hD hZ hG hO
          replace hE : Below w10.heap.size w10 W := hE
          have g6 := hG 6 27 rfl (Nat.le_of_ble_eq_true rfl)
          have v6 := hF 6 (by decide) (hD 6 (by kernel_rfl))
          replace v6 : ys 6 = .bool false := v6
          rw [v6] at g6
          refine BigFrame.wpList_want (by simp [Region.wanted, yielded, g6]) ?_
          intro K hK
          have v11 := hF 11 (by decide) (hD 11 (by kernel_rfl))
          replace v11 : ys 11 = .bool true := v11
          have g11 := hG 11 32 rfl (Nat.le_of_ble_eq_true rfl)
          rw [v11] at g11
          go_wp2_with fail
          first | exact ⟨_, rfl, Below.refl _ _, rfl, trivial⟩ | exact ⟨_, rfl, Below.refl _ _, rfl⟩
       case hQ51 =>
        intro ys W hE hF _
        replace hE : Below w10.heap.size w10 W := hE
        have v6 : ys 6 = .bool false := hF 6 (by decide)
        have v12 : ys 12 = .bool false := hF 12 (by decide)
        simp only [List.take_succ_cons, List.take_zero, List.drop_succ_cons, List.drop_zero, Sched.fill, v6, v12]
        have hbn := belowTr hbw10 hE
        clear hF v6 v12 hE hX10 hS10 hG10 hbw10
        go_simp
        go_wp2_with fail
        go_roundw
        case rel => exact LpT.mk_ 2 (by go_num) (by omega) hbn
        case measure => simp [intOf]
     · skip
       simp only [show ((2 : Nat) : Int) = 2 from rfl]
       obtain ⟨vR1, vC1, vL1, vD1, us1, s1, he1, hS1, hf1, hr1, hc1⟩ := hIc
       have hcell : (#[c0, c1, c2, c3, c4, c5, c6] : Array Value) = #[vR1, vC1, vL1, .int .i64 s1.cm, .int .i64 s1.rv, .int .i64 s1.sch, vD1] := Value.agg.inj he1
       have ix : ∀ W, (Instr.index 36 (.agg #[.slice xR s.reqs.length cR, .slice xC us.length cC, .slice xL s.lots.length cL, .int .i64 s.cm, .int .i64 s.rv, .int .i64 s.sch, .slice xD s.draws cD, b0, b1, b2, b3, b4, b5, b6, c0, c1, c2, c3, c4, c5, c6]) (.int .i64 2)).run Tryd.prog W = .ok (.agg #[vR1, vC1, vL1, .int .i64 s1.cm, .int .i64 s1.rv, .int .i64 s1.sch, vD1]) W := fun W => by
         rw [← hcell]
         kernel_rfl
       have hS2 := (hS1.keep hbw (Nat.le_refl _)).more hbw.size
       obtain ⟨x1, d1, rfl, _, _, _⟩ := id hS2.reqs
       obtain ⟨x2, d2, rfl, _, _, _⟩ := id hS2.cars.row
       obtain ⟨x3, d3, rfl, _, _, _⟩ := id hS2.lots
       obtain ⟨x4, d4, rfl, _, _⟩ := id hS2.draws
       simp only [List.length_map] at hS2 ix
       clear hcell hS1 he1
       go_upto_region 5 with fail
       clear ix
       obtain ⟨g5, hg5⟩ : ∃ g5, g5 = wr.heap.size := ⟨_, rfl⟩
       rw [← hg5]
       obtain ⟨w10, hw10⟩ : ∃ w10, wr.alloc (.cells #[.slice x1 s1.reqs.length d1, .slice x2 us1.length d2, .slice x3 s1.lots.length d3, .int .i64 s1.cm, .int .i64 s1.rv, .int .i64 s1.sch, .slice x4 s1.draws d4] 33) = w10 := ⟨_, rfl⟩
       have hX10 : At w10 g5 33 #[.slice x1 s1.reqs.length d1, .slice x2 us1.length d2, .slice x3 s1.lots.length d3, .int .i64 s1.cm, .int .i64 s1.rv, .int .i64 s1.sch, .slice x4 s1.draws d4] := by rw [← hw10]; exact At.new_ _ _ _ hg5
       have hb10 : Below wr.heap.size wr w10 := by rw [← hw10]; exact belowAX _ _
       rw [hw10]
       clear hw10 hg5
       have hS10 := (hS2.keep hb10 (Nat.le_refl _)).more hb10.size
       have hbw10 := belowTr hbw hb10
       have hG10 := hG9.keep hbw10 hG9.pos
       have hXi10 := hX10.inside
       clear hS2 hb10
       refine Sched.wp_region_sched 13 (fun W W' => Below W.heap.size W W') (V5t (.agg #[.slice x1 s1.reqs.length d1, .slice x2 us1.length d2, .slice x3 s1.lots.length d3, .int .i64 s1.cm, .int .i64 s1.rv, .int .i64 s1.sch, .slice x4 s1.draws d4]) s1) (fun _ _ _ => True) (by kernel_rfl) (by kernel_rfl) (by kernel_rfl) (fun h1 h2 => belowTr h1 h2) (fun h1 h2 => V5t.keep h1 h2) (Below.refl _ _).drew (fun _ => trivial) (Sched.StepsA.steps (by kernel_rfl) ?hS52) ?hQ52
       case hS52 =>
        simp only [List.take_succ_cons, List.take_zero]
        refine ⟨?_, ?_, ?_, ?_, ?_, ?_, ?_, ?_, ?_, ?_, ?_, ?_, ?_, trivial⟩
        · intro ys done W aa hE hn hF hD hZ hG hO
          replace hE : Below w10.heap.size w10 W := hE
          have o1 := hO 9 (by kernel_rfl)
          replace o1 : aa.tmps[9]? = some (.pointer (some ⟨g5, 0, none⟩)) := o1
          have p0 := (hX10.keep hE hXi10).cell 0
          have p1 := (hX10.keep hE hXi10).cell 1
          have p2 := (hX10.keep hE hXi10).cell 2
          have p3 := (hX10.keep hE hXi10).cell 3
          have p4 := (hX10.keep hE hXi10).cell 4
          have p5 := (hX10.keep hE hXi10).cell 5
          have p6 := (hX10.keep hE hXi10).cell 6
          simp at p0 p1 p2 p3 p4 p5 p6
          go_wp2_with fail
          first | exact ⟨_, rfl, Below.refl _ _, rfl, trivial⟩ | exact ⟨_, rfl, Below.refl _ _, rfl⟩
        · intro ys done W aa hE hn hF hD hZ hG hO
          replace hE : Below w10.heap.size w10 W := hE
          have v0 := hF 0 (by decide) (hD 0 (by kernel_rfl))
          replace v0 : ys 0 = .agg #[.slice x1 s1.reqs.length d1, .slice x2 us1.length d2, .slice x3 s1.lots.length d3, .int .i64 s1.cm, .int .i64 s1.rv, .int .i64 s1.sch, .slice x4 s1.draws d4] := v0
          have g0 := hG 0 21 rfl (Nat.le_of_ble_eq_true rfl)
          rw [v0] at g0
          have hSW := (hS10.keep hE (Nat.le_refl _)).more hE.size
          go_wp2_with fail
          refine (Check_any s1 hf1 _ _ _ _ us1 _ hSW).mono ?_
          rintro e W' ⟨⟨u, rfl, hu⟩, hb'⟩
          replace hu := Lib.hid hu
          replace hb' := Lib.hid hb'
          go_wp2_with fail
          first | exact ⟨_, rfl, hb'.out, hu.out, trivial⟩ | exact ⟨_, rfl, hb'.out, hu.out⟩
        · intro ys done W aa hE hn hF hD hZ hG hO
          replace hE : Below w10.heap.size w10 W := hE
          have o1 := hO 9 (by kernel_rfl)
          replace o1 : aa.tmps[9]? = some (.pointer (some ⟨g5, 0, none⟩)) := o1
          have p0 := (hX10.keep hE hXi10).cell 0
          have p1 := (hX10.keep hE hXi10).cell 1
          have p2 := (hX10.keep hE hXi10).cell 2
          have p3 := (hX10.keep hE hXi10).cell 3
          have p4 := (hX10.keep hE hXi10).cell 4
          have p5 := (hX10.keep hE hXi10).cell 5
          have p6 := (hX10.keep hE hXi10).cell 6
          simp at p0 p1 p2 p3 p4 p5 p6
          go_wp2_with fail
          first | exact ⟨_, rfl, Below.refl _ _, rfl, trivial⟩ | exact ⟨_, rfl, Below.refl _ _, rfl⟩
        · intro ys done W aa hE hn hF hD hZ hG hO
          replace hE : Below w10.heap.size w10 W := hE
          have v2 := hF 2 (by decide) (hD 2 (by kernel_rfl))
          replace v2 : ys 2 = .agg #[.slice x1 s1.reqs.length d1, .slice x2 us1.length d2, .slice x3 s1.lots.length d3, .int .i64 s1.cm, .int .i64 s1.rv, .int .i64 s1.sch, .slice x4 s1.draws d4] := v2
          have g2 := hG 2 23 rfl (Nat.le_of_ble_eq_true rfl)
          rw [v2] at g2
          have hSW := (hS10.keep hE (Nat.le_refl _)).more hE.size
          go_wp2_with fail
          refine (refCheck_any s1 _ _ _ _ us1 _ _ (Nat.le_refl _) hSW (by omega) (by omega)).mono ?_
          rintro e W' ⟨rfl, hb'⟩
          replace hb' := Lib.hid hb'
          go_wp2_with fail
          first | exact ⟨_, rfl, hb'.out, rfl, trivial⟩ | exact ⟨_, rfl, hb'.out, rfl⟩
        · intro ys done W aa hE hn hF hD hZ hG hO
          replace hE : Below w10.heap.size w10 W := hE
          have v1 : ErrAt W (ys 1) (faultV s1) := hF 1 (by decide) (hD 1 (by kernel_rfl))
          have g1 := hG 1 22 rfl (Nat.le_of_ble_eq_true rfl)
          have v3 := hF 3 (by decide) (hD 3 (by kernel_rfl))
          replace v3 : ys 3 = faultOf (faultV s1) := v3
          have g3 := hG 3 24 rfl (Nat.le_of_ble_eq_true rfl)
          rw [v3] at g3
          have hGW := hG10.keep hE hG10.pos
          go_wp2_with fail
          refine (told_yes _ (faultV s1) _ hGW v1 firstBad_code).mono ?_
          rintro e W' ⟨rfl, hb'⟩
          replace hb' := Lib.hid hb'
          go_wp2_with fail
          first | exact ⟨_, rfl, hb'.out, rfl, trivial⟩ | exact ⟨_, rfl, hb'.out, rfl⟩
        · intro ys done W aa hE hn hF hD hZ hG hO
          replace hE : Below w10.heap.size w10 W := hE
          have v4 := hF 4 (by decide) (hD 4 (by kernel_rfl))
          replace v4 : ys 4 = .bool true := v4
          have g4 := hG 4 25 rfl (Nat.le_of_ble_eq_true rfl)
          rw [v4] at g4
          go_wp2_with fail
          first | exact ⟨_, rfl, Below.refl _ _, rfl, trivial⟩ | exact ⟨_, rfl, Below.refl _ _, rfl⟩
        · intro ys done W aa hE hn hF hD hZ hG hO
          replace hE : Below w10.heap.size w10 W := hE
          have v5 := hF 5 (by decide) (hD 5 (by kernel_rfl))
          replace v5 : ys 5 = .bool false := v5
          have g5 := hG 5 26 rfl (Nat.le_of_ble_eq_true rfl)
          rw [v5] at g5
          go_wp2_with fail
          first | exact ⟨_, rfl, Below.refl _ _, rfl, trivial⟩ | exact ⟨_, rfl, Below.refl _ _, rfl⟩
        · intro ys done W aa hE hn hF hD hZ hG hO
          replace hE : Below w10.heap.size w10 W := hE
          have g6 := hG 6 27 rfl (Nat.le_of_ble_eq_true rfl)
          have v6 := hF 6 (by decide) (hD 6 (by kernel_rfl))
          replace v6 : ys 6 = .bool false := v6
          rw [v6] at g6
          refine BigFrame.wpList_want (by simp [Region.wanted, yielded, g6]) ?_
          intro K hK
          have o1 := hO 9 (by kernel_rfl)
          replace o1 : aa.tmps[9]? = some (.pointer (some ⟨g5, 0, none⟩)) := o1
          have p0 := (hX10.keep hE hXi10).cell 0
          have p1 := (hX10.keep hE hXi10).cell 1
          have p2 := (hX10.keep hE hXi10).cell 2
          have p3 := (hX10.keep hE hXi10).cell 3
          have p4 := (hX10.keep hE hXi10).cell 4
          have p5 := (hX10.keep hE hXi10).cell 5
          have p6 := (hX10.keep hE hXi10).cell 6
          simp at p0 p1 p2 p3 p4 p5 p6
          go_wp2_with fail
          first | exact ⟨_, rfl, Below.refl _ _, rfl, trivial⟩ | exact ⟨_, rfl, Below.refl _ _, rfl⟩
        · intro ys done W aa hE hn hF hD hZ hG hO
          replace hE : Below w10.heap.size w10 W := hE
          have g6 := hG 6 27 rfl (Nat.le_of_ble_eq_true rfl)
          have v6 := hF 6 (by decide) (hD 6 (by kernel_rfl))
          replace v6 : ys 6 = .bool false := v6
          rw [v6] at g6
          refine BigFrame.wpList_want (by simp [Region.wanted, yielded, g6]) ?_
          intro K hK
          have v7 := hF 7 (by decide) (hD 7 (by kernel_rfl))
          replace v7 : ys 7 = .agg #[.slice x1 s1.reqs.length d1, .slice x2 us1.length d2, .slice x3 s1.lots.length d3, .int .i64 s1.cm, .int .i64 s1.rv, .int .i64 s1.sch, .slice x4 s1.draws d4] := v7
          have g7 := hG 7 28 rfl (Nat.le_of_ble_eq_true rfl)
          rw [v7] at g7
          have hSW := (hS10.keep hE (Nat.le_refl _)).more hE.size
          go_wp2_with fail
          refine (Owners_any s1 hf1 _ _ _ _ us1 _ _ _ (by omega) _ hSW).mono ?_
          rintro e W' ⟨⟨u, rfl, hu⟩, hb'⟩
          replace hu := Lib.hid hu
          replace hb' := Lib.hid hb'
          go_wp2_with fail
          first | exact ⟨_, rfl, hb'.out, hu.out, trivial⟩ | exact ⟨_, rfl, hb'.out, hu.out⟩
        · intro ys done W aa hE hn hF hD hZ hG hO
          replace hE : Below w10.heap.size w10 W := hE
          have g6 := hG 6 27 rfl (Nat.le_of_ble_eq_true rfl)
          have v6 := hF 6 (by decide) (hD 6 (by kernel_rfl))
          replace v6 : ys 6 = .bool false := v6
          rw [v6] at g6
          refine BigFrame.wpList_want (by simp [Region.wanted, yielded, g6]) ?_
          intro K hK
          have o1 := hO 9 (by kernel_rfl)
          replace o1 : aa.tmps[9]? = some (.pointer (some ⟨g5, 0, none⟩)) := o1
          have p0 := (hX10.keep hE hXi10).cell 0
          have p1 := (hX10.keep hE hXi10).cell 1
          have p2 := (hX10.keep hE hXi10).cell 2
          have p3 := (hX10.keep hE hXi10).cell 3
          have p4 := (hX10.keep hE hXi10).cell 4
          have p5 := (hX10.keep hE hXi10).cell 5
          have p6 := (hX10.keep hE hXi10).cell 6
          simp at p0 p1 p2 p3 p4 p5 p6
          go_wp2_with fail
          first | exact ⟨_, rfl, Below.refl _ _, rfl, trivial⟩ | exact ⟨_, rfl, Below.refl _ _, rfl⟩
        · intro ys done W aa hE hn hF hD hZ hG hO
          replace hE : Below w10.heap.size w10 W := hE
          have g6 := hG 6 27 rfl (Nat.le_of_ble_eq_true rfl)
          have v6 := hF 6 (by decide) (hD 6 (by kernel_rfl))
          replace v6 : ys 6 = .bool false := v6
          rw [v6] at g6
          refine BigFrame.wpList_want (by simp [Region.wanted, yielded, g6]) ?_
          intro K hK
          have v9 := hF 9 (by decide) (hD 9 (by kernel_rfl))
          replace v9 : ys 9 = .agg #[.slice x1 s1.reqs.length d1, .slice x2 us1.length d2, .slice x3 s1.lots.length d3, .int .i64 s1.cm, .int .i64 s1.rv, .int .i64 s1.sch, .slice x4 s1.draws d4] := v9
          have g9 := hG 9 30 rfl (Nat.le_of_ble_eq_true rfl)
          rw [v9] at g9
          have hSW := (hS10.keep hE (Nat.le_refl _)).more hE.size
          go_wp2_with fail
          refine (refOwners_any s1 _ _ _ _ us1 _ _ _ (by omega) (by omega) _ hSW).mono ?_
          rintro e W' ⟨⟨u, rfl, hu⟩, hb'⟩
          replace hu := Lib.hid hu
          replace hb' := Lib.hid hb'
          go_wp2_with fail
          first | exact ⟨_, rfl, hb'.out, hu.out, trivial⟩ | exact ⟨_, rfl, hb'.out, hu.out⟩
        · intro ys done W aa hE hn hF hD hZ hG hO
          replace hE : Below w10.heap.size w10 W := hE
          have g6 := hG 6 27 rfl (Nat.le_of_ble_eq_true rfl)
          have v6 := hF 6 (by decide) (hD 6 (by kernel_rfl))
          replace v6 : ys 6 = .bool false := v6
          rw [v6] at g6
          refine BigFrame.wpList_want (by simp [Region.wanted, yielded, g6]) ?_
          intro K hK
          have v8 : RowB W.heap.size W (ys 8) 1 ((ownersL s1).map inV) := hF 8 (by decide) (hD 8 (by kernel_rfl))
          have g8 := hG 8 29 rfl (Nat.le_of_ble_eq_true rfl)
          have v10 : RowB W.heap.size W (ys 10) 1 ((ownersL s1).map inV) := hF 10 (by decide) (hD 10 (by kernel_rfl))
          have g10 := hG 10 31 rfl (Nat.le_of_ble_eq_true rfl)
          go_wp2_with fail
          refine (ints_yes _ _ (ownersL s1) _ v8 v10).mono ?_
          rintro e W' ⟨rfl, hb'⟩
          replace hb' := Lib.hid hb'
          go_wp2_with fail
          first | exact ⟨_, rfl, hb'.out, rfl, trivial⟩ | exact ⟨_, rfl, hb'.out, rfl⟩
        · intro ys done W aa hE hn hF hD hZ hG hO
          replace hE : Below w10.heap.size w10 W := hE
          have g6 := hG 6 27 rfl (Nat.le_of_ble_eq_true rfl)
          have v6 := hF 6 (by decide) (hD 6 (by kernel_rfl))
          replace v6 : ys 6 = .bool false := v6
          rw [v6] at g6
          refine BigFrame.wpList_want (by simp [Region.wanted, yielded, g6]) ?_
          intro K hK
          have v11 := hF 11 (by decide) (hD 11 (by kernel_rfl))
          replace v11 : ys 11 = .bool true := v11
          have g11 := hG 11 32 rfl (Nat.le_of_ble_eq_true rfl)
          rw [v11] at g11
          go_wp2_with fail
          first | exact ⟨_, rfl, Below.refl _ _, rfl, trivial⟩ | exact ⟨_, rfl, Below.refl _ _, rfl⟩
       case hQ52 =>
        intro ys W hE hF _
        replace hE : Below w10.heap.size w10 W := hE
        have v6 : ys 6 = .bool false := hF 6 (by decide)
        have v12 : ys 12 = .bool false := hF 12 (by decide)
        simp only [List.take_succ_cons, List.take_zero, List.drop_succ_cons, List.drop_zero, Sched.fill, v6, v12]
        have hbn := belowTr hbw10 hE
        clear hF v6 v12 hE hX10 hS10 hG10 hbw10
        go_simp
        go_wp2_with fail
        go_roundw
        case rel => exact LpT.mk_ 3 (by go_num) (by omega) hbn
        case measure => simp [intOf]
     · simp only [show ((3 : Nat) : Int) = 3 from rfl]
       have hGr := hG9.keep hbw hG9.pos
       have hBr := hB9.trans (hbw.mono hB9.size)
       go_wp2_with fail
       refine (works_any _ hGr).mono ?_
       rintro e W' ⟨rfl, hb'⟩
       have hfin := hBr.trans (hb'.mono hBr.size)
       clear hb' hBr hGr
       go_wp2
       go_ret
       exact ⟨rfl, hfin⟩

end Go.Proofs.YtlkijbakfoabaaaDoor.Scene

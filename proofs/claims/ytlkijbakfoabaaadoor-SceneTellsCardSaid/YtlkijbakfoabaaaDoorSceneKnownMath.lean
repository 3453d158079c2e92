/-
  SceneKnown's scenes, as plain data; rows that a call owns; the store of a whole scene.
-/
import Derived.Test.YtlkijbakfoabaaaDoorSceneWorks2
import Derived.Test.YtlkijbakfoabaaaDoorSched
namespace Go.Proofs.YtlkijbakfoabaaaDoor.Scene
open Go.RowKit Go.Sort Go.Proofs.YtlkijbakfoabaaaDoor.Mem
set_option linter.unusedVariables false

def kQ (n : Nat) : List Rq := (List.range n).map fun _ => oneQ
def kO : List Int := (List.range 64).map fun j : Nat => 63 - (j : Int)
def kL : List Lt := (List.range 16).map fun j : Nat => ⟨(j : Int), 16777216⟩
def kC : List Cr := [⟨[leastV], kO⟩]
def knownS : Sc := ⟨kQ 64, kC, kL, 64, 64, 1, 1⟩
def overS : Sc := ⟨kQ 65, kC, kL, 64, 64, 1, 1⟩
def lotsS : Sc := ⟨kQ 64, kC, kL ++ [⟨20, 0⟩], 64, 64, 1, 1⟩
def fleetS : Sc := ⟨[], [⟨[leastV], []⟩, ⟨[], []⟩], [], 1, 1, 0, 2⟩
def drawsS : Sc := ⟨[], [⟨[leastV], []⟩], [], 1, 1, 0, 0⟩
def lateS : Sc := ⟨kQ 64, kC, kL, 64, 65, 1, 1⟩
def noneS : Sc := ⟨[], [⟨[leastV], [0]⟩], [], 1, 1, 0, 1⟩
def worthS : Sc := ⟨kQ 64, kC, [⟨5, 16777217⟩, ⟨5, 0⟩], 64, 64, 1, 1⟩
def homeS : Sc := ⟨[], [⟨[leastV], []⟩, ⟨[⟨0, 0, 5, 0, 9⟩, ⟨1024, 0, 0, 0, 0⟩], [7]⟩], [], 1, 1, 0, 2⟩
theorem known_f : faultV knownS = (0, 0, 0) := by decide +kernel
theorem over_f : faultV overS = (11, 0, 0) := by decide +kernel
theorem lots_f : faultV lotsS = (11, 0, 0) := by decide +kernel
theorem fleet_f : faultV fleetS = (11, 0, 1) := by decide +kernel
theorem draws_f : faultV drawsS = (11, 0, 0) := by decide +kernel
theorem late_f : faultV lateS = (2, 0, 0) := by decide +kernel
theorem none_f : faultV noneS = (12, 2, 0) := by decide +kernel
theorem worth_f : faultV worthS = (3, 3, 0) := by decide +kernel
theorem home_f : faultV homeS = (4, 2, 1) := by decide +kernel
theorem known_fair : Fair knownS := fair_of (by decide +kernel) (by decide +kernel) (by decide +kernel) (by decide +kernel) (by decide +kernel) (by decide +kernel)
theorem over_fair : Fair overS := fair_of (by decide +kernel) (by decide +kernel) (by decide +kernel) (by decide +kernel) (by decide +kernel) (by decide +kernel)
theorem lots_fair : Fair lotsS := fair_of (by decide +kernel) (by decide +kernel) (by decide +kernel) (by decide +kernel) (by decide +kernel) (by decide +kernel)
theorem fleet_fair : Fair fleetS := fair_of (by decide +kernel) (by decide +kernel) (by decide +kernel) (by decide +kernel) (by decide +kernel) (by decide +kernel)
theorem draws_fair : Fair drawsS := fair_of (by decide +kernel) (by decide +kernel) (by decide +kernel) (by decide +kernel) (by decide +kernel) (by decide +kernel)
theorem late_fair : Fair lateS := fair_of (by decide +kernel) (by decide +kernel) (by decide +kernel) (by decide +kernel) (by decide +kernel) (by decide +kernel)
theorem none_fair : Fair noneS := fair_of (by decide +kernel) (by decide +kernel) (by decide +kernel) (by decide +kernel) (by decide +kernel) (by decide +kernel)
theorem worth_fair : Fair worthS := fair_of (by decide +kernel) (by decide +kernel) (by decide +kernel) (by decide +kernel) (by decide +kernel) (by decide +kernel)
theorem home_fair : Fair homeS := fair_of (by decide +kernel) (by decide +kernel) (by decide +kernel) (by decide +kernel) (by decide +kernel) (by decide +kernel)

/-- A row that a call owns reads as these rows. -/
theorem RowB.of_owns {W : World} {base m : Nat} {e : TypeId} {v : Value} {rows : List (List Value)} {n : Nat} (h : W.ownsRow base e m v n rows.flatten) (hn : n = rows.length) (hm : ∀ r ∈ rows, r.length = m) : RowB W.heap.size W v m rows := by
  subst hn
  rcases h.2 with ⟨rfl, h0⟩ | ⟨g, cap, cur, rfl, hb, hg, h1, h2, h3, h4⟩
  · obtain rfl := List.eq_nil_of_length_eq_zero h0
    exact RowB.nil _ _ _
  · refine RowB.of_at (t := e) (cs := cur) hg (Array.getElem?_eq_some_iff.1 hg).1 hm (fun i u hu => ?_) h1 h2
    have hl := h.1
    have hi := (List.getElem?_eq_some_iff.1 hu).1
    rw [← h4] at hu
    rw [List.getElem?_take] at hu
    split at hu
    · simpa using hu
    · cases hu

theorem At.apart {w : World} {g g' : Nat} {t t' : TypeId} {cs cs' : Array Value} (h : At w g t cs) (h' : At w g' t' cs') (ht : t ≠ t') : g ≠ g' := by
  rintro rfl
  have := h.symm.trans h'
  simp at this
  exact ht this.2

theorem info_rq : (Tryd.prog.info? 66).map (fun i => (i.zero, i.size, i.bytes)) = some (some (.agg #[.int .i64 0, .int .i64 0, .int .i64 0, .int .i64 0, .int .i64 0, .int .i64 0, .int .i64 0, .int .i64 0, .int .i64 0, .int .i64 0]), 10, 80) := by kernel_rfl
def rqsF : List Value := ((kQ 64).map rqV).flatten
def ltsF : List Value := (kL.map ltV).flatten
theorem rqsF_len : rqsF.length = 64 * 10 := by decide +kernel
theorem ltsF_len : ltsF.length = 16 * 2 := by decide +kernel
theorem rqsF_one : ∀ u ∈ rqsF, u.oneCell' = true := by decide +kernel
theorem ltsF_one : ∀ u ∈ ltsF, u.oneCell' = true := by decide +kernel
theorem rqsF_over : ([] ++ rqsF) ++ rqV oneQ = ((kQ 65).map rqV).flatten := by kernel_rfl
theorem ltsF_lots : ([] ++ ltsF) ++ ltV (⟨20, 0⟩ : Lt) = ((kL ++ [(⟨20, 0⟩ : Lt)]).map ltV).flatten := by kernel_rfl
/-- Rows one behind the other in a block. -/
def RowK (W : World) (v : Value) (t : TypeId) (m : Nat) (rows : List (List Value)) : Prop := ∃ g cap cs, v = .slice (some ⟨g, 0, none⟩) rows.length cap ∧ At W g t cs ∧ (∀ (i : Nat) (u : Value), rows.flatten[i]? = some u → cs[i]? = some u) ∧ rows.length ≤ cap ∧ cap ≤ maxLen
theorem RowK.row {W : World} {v : Value} {t : TypeId} {m : Nat} {rows : List (List Value)} (h : RowK W v t m rows) (hm : ∀ r ∈ rows, r.length = m) : RowB W.heap.size W v m rows := by
  obtain ⟨g, cap, cs, rfl, hA, hc, h1, h2⟩ := h
  exact RowB.of_at hA hA.inside hm hc h1 h2
theorem RowK.of_owns {W : World} {base m n : Nat} {e : TypeId} {v : Value} {rows : List (List Value)} {xs : List Value} (h : W.ownsRow base e m v (n + 1) xs) (hx : xs = rows.flatten) (hn : n + 1 = rows.length) : RowK W v e m rows := by
  subst hx
  rcases h.2 with ⟨_, h0⟩ | ⟨g, cap, cur, rfl, hb, hg, h1, h2, h3, h4⟩
  · omega
  · refine ⟨g, cap, cur, by rw [hn], hg, fun i u hu => ?_, by omega, h2⟩
    rw [← h4] at hu
    rw [List.getElem?_take] at hu
    split at hu
    · simpa using hu
    · cases hu
/-- All that is no variable of a scene is kept. -/
def Kept33 (W V : World) : Prop := ∀ (g : Nat) (t : TypeId) (cs : Array Value), At W g t cs → t ≠ 33 → At V g t cs
theorem RowK.kept {W V : World} {v : Value} {t : TypeId} {m : Nat} {rows : List (List Value)} (h : RowK W v t m rows) (hk : Kept33 W V) (ht : t ≠ 33) : RowK V v t m rows := by
  obtain ⟨g, cap, cs, e, hA, hc, h1, h2⟩ := h
  exact ⟨g, cap, cs, e, hk _ _ _ hA ht, hc, h1, h2⟩
theorem RowK.keep {W V : World} {v : Value} {t : TypeId} {m : Nat} {rows : List (List Value)} (h : RowK W v t m rows) (hk : Below W.heap.size W V) : RowK V v t m rows := by
  obtain ⟨g, cap, cs, e, hA, hc, h1, h2⟩ := h
  exact ⟨g, cap, cs, e, hA.keep hk hA.inside, hc, h1, h2⟩

theorem grown_put (w : World) (g i : Nat) (v : Value) : w.grownBy (w.setCell ⟨g, i, none⟩ v) (some g) :=
  ⟨rfl, rfl, rfl, by simp [World.setCell], fun k _ hn => Below.heap_setCell w ⟨g, i, none⟩ v k (fun e => hn (by rw [e]))⟩

theorem run_cell {P : Program} {w : World} {g i : Nat} {t : TypeId} {cs : Array Value} {x y : Value} (h : At w g t cs) (hi : cs[i]? = some x) (hv : y.oneCell' = true) : (store ⟨g, i, none⟩ y).run P w = .ok () (w.setCell ⟨g, i, none⟩ y) := by
  rw [run_store P w _ y _ hv, h.cell i, hi, h.free i]
  rfl

set_option maxHeartbeats 1000000 in
/-- The store of a whole scene. -/
theorem wpList_store_scene {ops : Array Oper} {rest : List Oper} {o : Oper} {a : Act} {w : World} {Q : Exit → Act → World → Prop} (hgd : o.guard = none) (hdst : o.dst = none) (p x : Operand) (ho : o.op = .store 33 p x)
    {g : Nat} {x0 x1 x2 x3 x4 x5 x6 y0 y1 y2 y3 y4 y5 y6 : Value} (hp : a.eval p = .pointer (some ⟨g, 0, none⟩)) (hx : a.eval x = .agg #[y0, y1, y2, y3, y4, y5, y6]) (hA : At w g 33 #[x0, x1, x2, x3, x4, x5, x6])
    (h1 : ∀ y ∈ [y0, y1, y2, y3, y4, y5, y6], y.oneCell' = true)
    (h : ∀ w', At w' g 33 #[y0, y1, y2, y3, y4, y5, y6] → w.grownBy w' (some g) → wpList Tryd.prog ops Q rest a w') : wpList Tryd.prog ops Q (o :: rest) a w := by
  refine wpList_plain hgd fun K hK => ?_
  simp only [List.mem_cons, List.not_mem_nil, or_false, forall_eq_or_imp, forall_eq] at h1
  obtain ⟨e0, e1, e2, e3, e4, e5, e6⟩ := h1
  have a1 := hA.put 0 y0
  have a2 := a1.put 1 y1
  have a3 := a2.put 2 y2
  have a4 := a3.put 3 y3
  have a5 := a4.put 4 y4
  have a6 := a5.put 5 y5
  have hr : (execOp a.eval o).run Tryd.prog w = .ok .skip (((((((w.setCell ⟨g, 0, none⟩ y0).setCell ⟨g, 1, none⟩ y1).setCell ⟨g, 2, none⟩ y2).setCell ⟨g, 3, none⟩ y3).setCell ⟨g, 4, none⟩ y4).setCell ⟨g, 5, none⟩ y5).setCell ⟨g, 6, none⟩ y6) := by
    unfold execOp
    simp only [ho, hp, hx]
    go_simp
    simp only [run_cell (i := 0) (x := x0) hA (by rfl) e0, Result.andThen_ok, run_cell (i := 1) (x := x1) a1 (by simp) e1, run_cell (i := 2) (x := x2) a2 (by simp) e2, run_cell (i := 3) (x := x3) a3 (by simp) e3, run_cell (i := 4) (x := x4) a4 (by simp) e4, run_cell (i := 5) (x := x5) a5 (by simp) e5, run_cell (i := 6) (x := x6) a6 (by simp) e6]
  unfold Oper.wp
  rw [hr, Oper.upon_skip, hdst]
  refine hK _ _ (h _ ?_ ?_)
  · simpa using a6.put 6 y6
  · exact ((((((grown_put _ _ _ _).trans (grown_put _ _ _ _)).trans (grown_put _ _ _ _)).trans (grown_put _ _ _ _)).trans (grown_put _ _ _ _)).trans (grown_put _ _ _ _)).trans (grown_put _ _ _ _)

theorem kept33_put {w : World} {g : Nat} {cs : Array Value} (h : At w g 33 cs) (i : Nat) (v : Value) : Kept33 w (w.setCell ⟨g, i, none⟩ v) := fun g' t' cs' hA ht => hA.far (At.apart hA h ht) i v
theorem LeastAt.k33 {m : Nat} {W V : World} (h : LeastAt W m) (hx : Kept33 W V) : LeastAt V m := ⟨hx _ _ _ h.veh (by decide), hx _ _ _ h.car (by decide), hx _ _ _ h.draw (by decide)⟩
/-- Two carriers. -/
theorem CarsAt.two {B : Nat} {W : World} {v a b a' b' : Value} {c c' : Cr} (h : RowB B W v 2 [[a, b], [a', b']]) (hf : RowB B W a 5 (c.fleet.map vhV)) (ho : RowB B W b 1 (c.own.map inV)) (hf' : RowB B W a' 5 (c'.fleet.map vhV)) (ho' : RowB B W b' 1 (c'.own.map inV)) : CarsAt B W v [(a, b), (a', b')] [c, c'] :=
  ⟨rfl, h, fun j u d hu hd => by
    match j with
    | 0 => simp at hu hd; subst hu; subst hd; exact ⟨hf, ho⟩
    | 1 => simp at hu hd; subst hu; subst hd; exact ⟨hf', ho'⟩
    | j + 2 => simp at hu⟩
def emptyS : Sc := ⟨[], [], [], 0, 0, 0, 0⟩
theorem empty_fair : Fair emptyS := fair_of (by decide) (by decide) (by decide) (by decide) (by decide) (by decide)
theorem empty_own : ((ownersL emptyS).map inV).length = 0 := by decide +kernel
theorem cap2 : 2 ≤ maxLen := by unfold maxLen; simp
theorem LeastOwn.k33 {m o : Nat} {W V : World} (h : LeastOwn W m o) (hx : Kept33 W V) : LeastOwn V m o := ⟨hx _ _ _ h.veh (by decide), hx _ _ _ h.car (by decide), hx _ _ _ h.draw (by decide), hx _ _ _ h.own (by decide)⟩
theorem LeastOwn.below {m o : Nat} {W V : World} (h : LeastOwn W m o) (hb : Below W.heap.size W V) : LeastOwn V m o := ⟨h.veh.keep hb h.veh.inside, h.car.keep hb h.car.inside, h.draw.keep hb h.draw.inside, h.own.keep hb h.own.inside⟩
theorem below_alloc2 (w : World) (o : Obj) : Below w.heap.size w (w.alloc o) := (Below.refl _ _).alloc (Nat.le_refl _) _

end Go.Proofs.YtlkijbakfoabaaaDoor.Scene

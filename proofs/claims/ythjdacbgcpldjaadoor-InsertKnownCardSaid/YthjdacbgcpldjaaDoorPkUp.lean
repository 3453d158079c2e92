import Derived.RangeFuncNested
import Derived.RangeFuncBound
import Derived.RangeFuncCalls
import Derived.RangeFuncLeaves
import Derived.Shelf.Abstract
import Derived.Shelf.RegionOpen
import Derived.WalkKit
import Derived.OwnWalkIn
import Derived.TacticsInMore
import Derived.LoopNIn
import Derived.LoopIn
import Derived.Test.YthjdacbgcpldjaaDoorPkPlaceMath
import Derived.Below
import Derived.Laws.OwnMore
import Derived.Deep.Draws
import Derived.Laws.Rows
import Derived.Test.YthjdacbgcpldjaaDoorRows
import Derived.WalkSpells
import Derived.ProofKit
import Derived.Outline
import Derived.Deep.QuietTactic
import Derived.BigQuiet
import Derived.BigRegion
import Derived.Deep.RegionHeld3
import Derived.Deep.AppendLies
import Derived.Deep.Cut
import Derived.Deep.CutRange
import Derived.Deep.CutBlock
import Derived.Lib.QuietBelow
import Derived.Lib.Hide
import Derived.Lib.MinMax
import Derived.Laws.AppendOwnNone
import Derived.ArgAppend
import Derived.StillTailTactics
import Derived.WalkLawsBesides
import Derived.Maps.OwnIn
import Derived.Maps.AppendAt
import Derived.DataShut

/-
  A range over a function whose body leaves by a return at the first thing that is not good: the loop's side and the iterator's, where the iterator keeps cells and maps of its own between two rounds. Nothing here speaks of a program.
-/
namespace Go.Proofs.YthjdacbgcpldjaaDoor.Up
open Go.RowKit
set_option linter.unusedVariables false

/-- From block B on nothing that was there has turned. -/
structure Kept (B : Nat) (W W' : World) : Prop where
  size : W.heap.size ≤ W'.heap.size
  same : ∀ k, B ≤ k → k < W.heap.size → W'.heap[k]? = W.heap[k]?
theorem Kept.refl (B : Nat) (W : World) : Kept B W W := ⟨Nat.le_refl _, fun _ _ _ => rfl⟩
theorem Kept.trans {B : Nat} {X Y Z : World} (h : Kept B X Y) (k : Kept B Y Z) : Kept B X Z :=
  ⟨Nat.le_trans h.size k.size, fun i hB hi => (k.same i hB (Nat.lt_of_lt_of_le hi h.size)).trans (h.same i hB hi)⟩
theorem Kept.grown {B : Nat} {W W' : World} {row : Option Nat} (h : W.grownBy W' row) (hr : ∀ r, row = some r → r < B) : Kept B W W' :=
  ⟨h.size, fun k hB hk => h.block k hk (fun e => by have := hr k e.symm; omega)⟩
theorem Kept.alloc (B : Nat) (W : World) (o : Obj) : Kept B W (W.alloc o) := .grown (World.grownBy_alloc W o none) (fun r e => by cases e)
theorem Kept.setCell {B : Nat} (W : World) {b i : Nat} (h : b < B) (v : Value) : Kept B W (W.setCell ⟨b, i, none⟩ v) :=
  ⟨by simp, fun k hB hk => Below.heap_setCell W _ v k (by simp; omega)⟩
theorem Kept.mono {B C : Nat} {W W' : World} (h : Kept B W W') (hc : B ≤ C) : Kept C W W' := ⟨h.size, fun k hk hs => h.same k (Nat.le_trans hc hk) hs⟩

/-- What holds of old blocks, and of cells, alone: new blocks, and turns of blocks from B on that are no cells, leave it. -/
def Old {β : Type} (B : Nat) (J : β → World → Prop) : Prop := ∀ s A A' row, J s A → A.grownBy A' row → (∀ r, row = some r → B ≤ r ∧ ∃ o, A.heap[r]? = some o ∧ o.isCells = false) → J s A'
theorem Old.mono {β : Type} {B C : Nat} {J : β → World → Prop} (h : Old B J) (hc : B ≤ C) : Old C J := fun s A A' row hs hg hr => h s A A' row hs hg (fun r e => ⟨Nat.le_trans hc (hr r e).1, (hr r e).2⟩)
theorem Old.new {β : Type} {B : Nat} {J : β → World → Prop} (h : Old B J) {s : β} {A : World} (hs : J s A) (o : Obj) : J s (A.alloc o) := h s A _ none hs (World.grownBy_alloc A o none) (fun r e => by cases e)

theorem roundAny {m m' : Nat} {P : Program} {l : Nat} {f : FuncId} {tmps : Array Value} {assign body : Code} {w : World} {R : Ending → World → Prop} (h : RoundIn Fence.wide m P l f tmps assign body w R) :
    RoundIn Fence.wide m' P l f tmps assign body w R := ⟨h.1, fun c cs _ => h.2 c cs (room_wide _)⟩
theorem yieldAny {m : Nat} (m' : Nat) {P : Program} {l : Nat} {args : Array Value} {W : World} {R : Ending → World → Prop} (h : YieldAt Fence.wide m P l args W R) : YieldAt Fence.wide m' P l args W R := by
  obtain ⟨fn, tmps, assign, body, hy, hR⟩ := h
  exact ⟨fn, tmps, assign, body, hy, roundAny hR⟩

/-- What is handed out: all up to the first that is not good, it too. -/
def upTo {α : Type} (good : α → Bool) : List α → List α
  | [] => []
  | x :: xs => x :: if good x then upTo good xs else []
theorem upTo_append {α : Type} {good : α → Bool} : ∀ {pre rest : List α}, (∀ y ∈ pre, good y = true) → upTo good (pre ++ rest) = pre ++ upTo good rest
  | [], _, _ => rfl
  | x :: pre, rest, h => by
    have h1 := h x (List.mem_cons_self ..)
    rw [List.cons_append, upTo, h1, if_pos rfl, upTo_append (fun y hy => h y (List.mem_cons_of_mem _ hy)), List.cons_append]
theorem upTo_bad {α : Type} {good : α → Bool} {x : α} (h : good x = false) (xs : List α) : upTo good (x :: xs) = [x] := by rw [upTo, h]; rfl
theorem upTo_good {α : Type} {good : α → Bool} {x : α} (h : good x = true) (xs : List α) : upTo good (x :: xs) = x :: upTo good xs := by rw [upTo, h]; rfl
theorem upTo_all {α : Type} {good : α → Bool} {xs : List α} (h : ∀ y ∈ xs, good y = true) : upTo good xs = xs := by
  have := upTo_append (rest := []) h
  simpa [upTo] using this
theorem good_snoc {α : Type} {good : α → Bool} {pre : List α} {x : α} (h : ∀ y ∈ pre, good y = true) (hx : good x = true) : ∀ y ∈ pre ++ [x], good y = true := by
  intro y hy
  rcases List.mem_append.1 hy with hy | hy
  · exact h y hy
  · obtain rfl := List.mem_singleton.1 hy
    exact hx

theorem upTo_ext {α : Type} {good : α → Bool} : ∀ {xs : List α}, (∀ y ∈ upTo good xs, good y = true) → ∀ y ∈ xs, good y = true
  | [], _, y, hy => by cases hy
  | x :: xs, h, y, hy => by
    have hx := h x (by rw [upTo]; exact List.mem_cons_self ..)
    rcases List.mem_cons.1 hy with rfl | hy
    · exact hx
    · refine upTo_ext (xs := xs) (fun z hz => h z ?_) y hy
      rw [upTo_good hx]
      exact List.mem_cons_of_mem _ hz

/-- An iterator hands out just xs, till a round says no, as it does at the first that is not good. -/
def Runs {α : Type} (P : Program) (gf : Nat) (fst lb : Array Value) (encs : α → Array Value) (good : α → Bool) (xs : List α) (B : Nat) (I : List α → World → Prop) : Prop :=
  ∀ (l : Nat) (J : List α → World → Prop) (W : World), W.heap.size = B → J [] W → Old B J → (∀ s A, J s A → I s A) →
    (∀ (m : Nat) pre x A, J pre A → (∀ y ∈ pre, good y = true) → B ≤ A.heap.size → YieldAt Fence.wide m P l (encs x) A fun e A' => e = .returned (.bool (good x)) ∧ J (pre ++ [x]) A' ∧ Kept B A A') →
    CallsIn Fence.wide 2 P gf (fst ++ #[.func (.yield l) #[] #[]] ++ lb) W fun e A' => (∃ v, e = .returned v) ∧ J (upTo good xs) A'

/-- How the body of a round is left: off its end at what is good, by a return at what is not. -/
def upPost (good : Bool) (R : World → Prop) : Exit → Act → World → Prop
  | .normal, _, w => good = true ∧ R w
  | .ret, _, w => good = false ∧ R w
  | _, _, _ => False

/-- How a round goes on behind the assignment to the loop's variables. -/
def GoOn {α : Type} (P : Program) (l : Nat) (body : Code) (n : Nat) (I : List α → World → Prop) (good : α → Bool) (pre : List α) (x : α) (W : World) (a' : Act) (Wa : World) : Prop :=
  W.grownBy Wa none ∧ ∀ V, V.heap.size = Wa.heap.size → (∀ k, k ≠ n + 1 → V.heap[k]? = Wa.heap[k]?) → I pre V →
    body.wpIn (Fence.wide.inRound l) 1 P (upPost (good x) fun W' => I (pre ++ [x]) W' ∧ Kept n V W') a' V

set_option maxHeartbeats 1000000 in
theorem rangesRound {α : Type} {P : Program} {g : Operand} {ps : Array Tmp} {assign body : Code} {Q : Exit → Act → World → Prop} {a : Act} {w : World}
    {gf : Nat} {fst lb : Array Value} (hg : a.eval g = .func (.func gf) fst lb) (eg : ∀ args w, (callFunc gf args).run P w = .ok (.enter gf args) w)
    {encs : α → Array Value} {good : α → Bool} {xs : List α} (hps : ∀ x, (encs x).size = ps.size) (I : List α → World → Prop) (hI : Old w.heap.size I) (h0 : I [] w) (hseq : Runs P gf fst lb encs good xs (w.heap.size + 2) I)
    (hround : ∀ (l : Nat) (pre : List α) (x : α) (W : World), w.heap.size + 2 ≤ W.heap.size → I pre W → (∀ y ∈ pre, good y = true) →
      assign.wpIn (Fence.wide.inRound l) 1 P (Exit.then (GoOn P l body w.heap.size I good pre x W) (fun _ _ _ => False)) { tmps := (ps.zip (encs x)).foldl (fun t (p, v) => t.setIfInBounds p v) a.tmps, defers := [] } W)
    (hdone : ∀ (W : World), w.heap.size + 2 ≤ W.heap.size → I xs W → (∀ y ∈ xs, good y = true) → W.heap[w.heap.size]? = some (.deferred (some [])) → Q .normal { a with defers := { target := .collected w.heap.size, args := #[] } :: a.defers } W)
    (hstop : ∀ (W : World), w.heap.size + 2 ≤ W.heap.size → I (upTo good xs) W → ¬ (∀ y ∈ xs, good y = true) → W.heap[w.heap.size]? = some (.deferred (some [])) → Code.ret.wpIn Fence.wide 3 P Q { a with defers := { target := .collected w.heap.size, args := #[] } :: a.defers } W) :
    (Code.rangeFunc g ps assign body).wpIn Fence.wide 3 P Q a w := by
  refine wpIn_rangeFunc fun fn hfn => ?_
  let rec_ : LoopState → Option Code → Loop := fun st pe => { state := st, pending := pe, fn, tmps := a.tmps, params := ps, assign, body, defers := w.heap.size }
  let W1 : World := (w.alloc (.deferred (some []))).alloc (.loop (rec_ .ready none))
  have hs1 : W1.heap.size = w.heap.size + 2 := by simp [W1]
  have hL : W1.heap[w.heap.size + 1]? = some (.loop (rec_ .ready none)) := by
    have h := World.alloc_heap_new (w.alloc (.deferred (some []))) (.loop (rec_ .ready none))
    rwa [World.size_alloc] at h
  have hD : W1.heap[w.heap.size]? = some (.deferred (some [])) := (Below.heap_alloc _ _ _ (by simp)).trans (World.alloc_heap_new w _)
  have hI1 : I [] W1 := hI.new (hI.new h0 _) _
  let st : List α → LoopState × Option Code := fun pre => if ∀ y ∈ pre, good y = true then (.ready, none) else (.done, some .ret)
  let J : List α → World → Prop := fun pre W => I pre W ∧ W.heap[w.heap.size + 1]? = some (.loop (rec_ (st pre).1 (st pre).2)) ∧ W.heap[w.heap.size]? = some (.deferred (some [])) ∧ w.heap.size + 2 ≤ W.heap.size
  have hst0 : st [] = (.ready, none) := if_pos (fun y hy => by cases hy)
  have hst1 : ∀ {pre : List α}, (∀ y ∈ pre, good y = true) → st pre = (.ready, none) := fun h => if_pos h
  have hst2 : ∀ {pre : List α} {x : α}, good x = false → st (pre ++ [x]) = (.done, some .ret) := fun {pre x} h => if_neg (fun hh => by have := hh x (by simp); rw [h] at this; cases this)
  refine ⟨w.heap.size + 1, [{ target := .collected w.heap.size, args := #[] }], W1, { target := .fn (.func gf) lb, args := fst ++ #[.func (.yield (w.heap.size + 1)) #[] #[]] }, W1, gf,
    fst ++ #[.func (.yield (w.heap.size + 1)) #[] #[]] ++ lb, W1, run_enterLoop_outer _ _ _ _ _, ?_, fun _ _ => trivial, by simp [invoke, go_sem, eg], fun _ => by omega, ?_⟩
  · simp only [resolve, hg]
    simp [go_sem]
  · refine (hseq (w.heap.size + 1) J W1 hs1 ⟨hI1, by rw [hst0]; exact hL, hD, by omega⟩ ?_ (fun s A h => h.1) ?_).mono ?_
    · rintro s A A' row ⟨h1, h2, h3, h4⟩ hgr hr
      have hb : ∀ k, k < w.heap.size + 2 → A'.heap[k]? = A.heap[k]? := fun k hk => hgr.block k (by omega) (fun e => by have := (hr k e.symm).1; omega)
      exact ⟨hI s A A' row h1 hgr (fun r e => ⟨by have := (hr r e).1; omega, (hr r e).2⟩), (hb _ (by omega)).trans h2, (hb _ (by omega)).trans h3, Nat.le_trans h4 hgr.size⟩
    · rintro m pre x W ⟨h1, h2, h3, h4⟩ hgood _
      rw [hst1 hgood] at h2
      refine yieldAny (m := 1) m ⟨fn, _, assign, body, run_yield h2 (hps x), roundIn_of_wpIn hfn (wpIn_mono (hround _ pre x W h4 h1 hgood) ?_)⟩
      rintro ex a' Wa hex
      cases ex with
      | normal => ?_
      | _ => exact hex.elim
      obtain ⟨hga, hgo⟩ := hex
      have ka : Kept w.heap.size W Wa := .grown hga (fun r e => by cases e)
      have h2a := (ka.same _ (by omega) (by omega)).trans h2
      have h3a := (ka.same _ (by omega) (by omega)).trans h3
      have h4a := ka.size
      refine ⟨Wa.putObj (w.heap.size + 1) (.loop { rec_ .ready none with state := .busy }), run_beginRound h2a rfl, ?_⟩
      have hl2 : (Wa.putObj (w.heap.size + 1) (.loop { rec_ .ready none with state := .busy })).heap[w.heap.size + 1]? = some (.loop { rec_ .ready none with state := .busy }) := World.putObj_heap_same (by omega)
      have hk2 := (World.putObj_heap_other (w := Wa) (o := .loop { rec_ .ready none with state := .busy }) (show w.heap.size ≠ w.heap.size + 1 by omega)).trans h3a
      refine wpIn_mono (hgo (Wa.putObj (w.heap.size + 1) (.loop { rec_ .ready none with state := .busy })) (by simp) (fun k hk => World.putObj_heap_other hk) (hI _ _ _ _ (hI _ _ _ _ h1 hga (fun r e => by cases e)) (grownBy_putObj' Wa _ _) (fun r e => by cases e; exact ⟨by omega, _, h2a, rfl⟩))) ?_
      have fin : ∀ (c : Option Code) (W3 : World), I (pre ++ [x]) W3 → Kept w.heap.size (Wa.putObj (w.heap.size + 1) (.loop { rec_ .ready none with state := .busy })) W3 → st (pre ++ [x]) = (if c.isNone then .ready else .done, c) →
          (Instr.endRound (w.heap.size + 1) c).run P W3 = .ok (.bool c.isNone) (W3.putObj (w.heap.size + 1) (.loop (rec_ (if c.isNone then .ready else .done) c))) ∧
          J (pre ++ [x]) (W3.putObj (w.heap.size + 1) (.loop (rec_ (if c.isNone then .ready else .done) c))) ∧ Kept (w.heap.size + 2) W (W3.putObj (w.heap.size + 1) (.loop (rec_ (if c.isNone then .ready else .done) c))) := fun c W3 hi3 hk3 hs => by
        have hl3 := (hk3.same _ (by omega) (by simp; omega)).trans hl2
        have hd3 := (hk3.same _ (Nat.le_refl _) (by simp; omega)).trans hk2
        have hz3 : w.heap.size + 2 ≤ W3.heap.size := Nat.le_trans (by simp; omega) hk3.size
        refine ⟨run_endRound c hl3, ⟨hI _ _ _ _ hi3 (grownBy_putObj' W3 _ _) (fun r e => by cases e; exact ⟨by omega, _, hl3, rfl⟩), by rw [hs]; exact World.putObj_heap_same (by omega), (World.putObj_heap_other (by omega)).trans hd3, by simp; omega⟩, ?_⟩
        refine ⟨Nat.le_trans ka.size (Nat.le_trans (by simp) (Nat.le_trans hk3.size (by simp))), fun k hk1 hk4 => ?_⟩
        have e1 := World.putObj_heap_other (w := Wa) (o := .loop { rec_ .ready none with state := .busy }) (show k ≠ w.heap.size + 1 by omega)
        exact (World.putObj_heap_other (by omega)).trans ((hk3.same k (by omega) (by simp; have := ka.size; omega)).trans (e1.trans (ka.same k (by omega) hk4)))
      rintro e a3 W3 hp
      cases e with
      | normal =>
        obtain ⟨hgx, hi3, hk3⟩ := hp
        obtain ⟨hr, hj, hk⟩ := fin none W3 hi3 hk3 (hst1 (good_snoc hgood hgx))
        exact ⟨_, _, hr, by rw [hgx]; rfl, hj, hk⟩
      | ret =>
        obtain ⟨hgx, hi3, hk3⟩ := hp
        obtain ⟨hr, hj, hk⟩ := fin (some .ret) W3 hi3 hk3 (hst2 hgx)
        exact ⟨_, _, hr, by rw [hgx]; rfl, hj, hk⟩
      | _ => exact hp.elim
    · rintro e W2 ⟨⟨v, rfl⟩, hi, hl, hk, hz⟩
      by_cases hall : ∀ y ∈ xs, good y = true
      · rw [upTo_all hall] at hi hl
        rw [hst1 hall] at hl
        exact ⟨none, _, run_endLoop hl (by simp [rec_]), hdone _ (by simp; omega) (hI _ _ _ _ hi (grownBy_putObj' W2 _ _) (fun r e => by cases e; exact ⟨by omega, _, hl, rfl⟩)) hall ((World.putObj_heap_other (by omega)).trans hk)⟩
      · have hs : st (upTo good xs) = (.done, some .ret) := if_neg (fun hh => hall (upTo_ext hh))
        rw [hs] at hl
        exact ⟨some .ret, _, run_endLoop hl (by simp [rec_]), hstop _ (by simp; omega) (hI _ _ _ _ hi (grownBy_putObj' W2 _ _) (fun r e => by cases e; exact ⟨by omega, _, hl, rfl⟩)) hall ((World.putObj_heap_other (by omega)).trans hk)⟩

/-- The marks of ranges that are over. -/
def Marks (ds : List Nat) (W : World) : Prop := ∀ d ∈ ds, W.heap[d]? = some (.deferred (some []))
def mark (d : Nat) : Deferred := { target := .collected d, args := #[] }
theorem Marks.inside {ds : List Nat} {W : World} (h : Marks ds W) {d : Nat} (hd : d ∈ ds) : d < W.heap.size := (Array.getElem?_eq_some_iff.1 (h d hd)).1
theorem Marks.same {ds : List Nat} {W W' : World} (h : Marks ds W) (hs : ∀ d ∈ ds, W'.heap[d]? = W.heap[d]?) : Marks ds W' := fun d hd => (hs d hd).trans (h d hd)
theorem Marks.kept {ds : List Nat} {B : Nat} {W W' : World} (h : Marks ds W) (hk : Kept B W W') (hB : ∀ d ∈ ds, B ≤ d) : Marks ds W' := h.same fun d hd => hk.same d (hB d hd) (h.inside hd)
theorem Marks.old {ds : List Nat} {W A : World} {row : Option Nat} (h : Marks ds W) (hg : W.grownBy A row) {n : Nat} (hr : ∀ r, row = some r → n ≤ r) (hn : ∀ d ∈ ds, d < n) : Marks ds A :=
  h.same fun d hd => hg.block d (h.inside hd) (fun e => by have := hr d e.symm; have := hn d hd; omega)
theorem Marks.cons {ds : List Nat} {d : Nat} {W : World} (h : Marks ds W) (hd : W.heap[d]? = some (.deferred (some []))) : Marks (d :: ds) W := by
  intro e he
  rcases List.mem_cons.1 he with rfl | he
  · exact hd
  · exact h e he

theorem leave_marks {F : Fence} {n : Nat} {P : Program} {fn : Func} {tmps : Array Value} {R : Ending → World → Prop} {B : Nat} {J : World → Prop} {v : Value} (hv : ∀ W', (results fn tmps).run P W' = .ok v W')
    (hJ : ∀ A d o, J A → B ≤ d → (∃ o, A.heap[d]? = some o ∧ o.isCells = false) → J (A.putObj d o)) (hR : ∀ W', J W' → R (.returned v) W') :
    ∀ (ds : List Nat) (W : World), ds.Nodup → Marks ds W → (∀ d ∈ ds, B ≤ d) → J W → LeavesInM F n P fn tmps R (ds.map mark) .returning W
  | [], W, _, _, _, h => ⟨v, hv W, hR W h⟩
  | d :: ds, W, hn, hm, hB, h => by
    refine ⟨by simp, .inl ⟨d, _, rfl, run_takeDeferred (hm d (List.mem_cons_self ..)), ?_⟩⟩
    have hn' := List.nodup_cons.1 hn
    exact leave_marks hv hJ hR ds _ hn'.2 (fun e he => (World.putObj_heap_other (fun e' => hn'.1 (by rw [← e']; exact he))).trans (hm e (List.mem_cons_of_mem _ he))) (fun e he => hB e (List.mem_cons_of_mem _ he)) (hJ _ _ _ h (hB d (List.mem_cons_self ..)) ⟨_, hm d (List.mem_cons_self ..), rfl⟩)

end Go.Proofs.YthjdacbgcpldjaaDoor.Up

/-
  What package sched answers, in plain numbers and lists. No program is spoken of here.
-/
namespace Go.Proofs.YthjdacbgcpldjaaDoor.When
open Go.Proofs.YthjdacbgcpldjaaDoor.Order Go.Proofs.YthjdacbgcpldjaaDoor.Place Go.Proofs.YthjdacbgcpldjaaDoor.Window Go.Proofs.YthjdacbgcpldjaaDoor.Up
set_option linter.unusedVariables false

/-- A request, a vehicle, a visit, the times of one, and where a vehicle is. -/
structure Rq where (fx fy tx ty pe pl de dl ld sv : Int)
structure Vh where (hx hy cp st en : Int)
structure Vi where (px py we wl sv : Int)
structure Tm where (ar be lv : Int)
deriving DecidableEq
structure Sp where (now px py : Int)

def Rq.chk (q : Rq) : Int := Order.chk q.fx q.fy q.tx q.ty q.pe q.pl q.de q.dl q.ld q.sv
def Vh.chk (h : Vh) : Int := Order.veh h.hx h.hy h.cp h.st h.en
def noVi : Vi := ⟨0, 0, 0, 0, 0⟩
def inT (t : List Rq) (r : Int) : Bool := decide (0 ≤ r) && decide (r < t.length)

/-- A stop with what it is. -/
def visO (t : List Rq) (s : Int × Int) : Option Vi :=
  if inT t s.1 then
    match t[s.1.toNat]? with
    | some q => if s.2 = 0 then some ⟨q.fx, q.fy, q.pe, q.pl, q.sv⟩ else if s.2 = 1 then some ⟨q.tx, q.ty, q.de, q.dl, q.sv⟩ else none
    | none => none
  else none
def visV (t : List Rq) (s : Int × Int) : Vi := (visO t s).getD noVi
def visB (t : List Rq) (s : Int × Int) : Bool := (visO t s).isSome

theorem visO_out {t : List Rq} {s : Int × Int} (h : inT t s.1 = false) : visO t s = none := by simp [visO, h]
theorem visO_pick {t : List Rq} {s : Int × Int} {q : Rq} (h : inT t s.1 = true) (hq : t[s.1.toNat]? = some q) (h0 : s.2 = 0) : visO t s = some ⟨q.fx, q.fy, q.pe, q.pl, q.sv⟩ := by simp [visO, h, hq, h0]
theorem visO_drop {t : List Rq} {s : Int × Int} {q : Rq} (h : inT t s.1 = true) (hq : t[s.1.toNat]? = some q) (h0 : s.2 = 1) : visO t s = some ⟨q.tx, q.ty, q.de, q.dl, q.sv⟩ := by simp [visO, h, hq, h0]
theorem inT_get {t : List Rq} {r : Int} (h : inT t r = true) : ∃ q, t[r.toNat]? = some q ∧ 0 ≤ r ∧ r < t.length := by
  simp only [inT, Bool.and_eq_true, decide_eq_true_eq] at h
  exact ⟨t[r.toNat]'(by omega), List.getElem?_eq_getElem (by omega), h.1, h.2⟩
theorem visO_odd {t : List Rq} {s : Int × Int} (h0 : s.2 ≠ 0) (h1 : s.2 ≠ 1) : visO t s = none := by
  cases hi : inT t s.1
  · exact visO_out hi
  · obtain ⟨q, hq, _⟩ := inT_get hi
    unfold visO
    rw [if_pos hi, hq]
    simp [h0, h1]
theorem visO_some {t : List Rq} {s : Int × Int} {x : Vi} (h : visO t s = some x) : ∃ q, t[s.1.toNat]? = some q ∧ 0 ≤ s.1 ∧ s.1 < t.length ∧ x.sv = q.sv ∧ (s.2 = 0 ∧ x = ⟨q.fx, q.fy, q.pe, q.pl, q.sv⟩ ∨ s.2 = 1 ∧ x = ⟨q.tx, q.ty, q.de, q.dl, q.sv⟩) := by
  cases hi : inT t s.1
  · rw [visO_out hi] at h; cases h
  · obtain ⟨q, hq, h1, h2⟩ := inT_get hi
    by_cases h0 : s.2 = 0
    · rw [visO_pick hi hq h0] at h; cases h
      exact ⟨q, hq, h1, h2, rfl, .inl ⟨h0, rfl⟩⟩
    · by_cases h3 : s.2 = 1
      · rw [visO_drop hi hq h3] at h; cases h
        exact ⟨q, hq, h1, h2, rfl, .inr ⟨h3, rfl⟩⟩
      · rw [visO_odd h0 h3] at h; cases h

/-- What is wrong. -/
def wrongV (v : Vh) (l : List (Int × Int)) (t : List Rq) : Int :=
  if v.chk ≠ 0 then 2 else if t.any (fun q => decide (q.chk ≠ 0)) then 2 else if Route.checkV l ≠ 0 then 8 else if l.any (fun s => !visB t s) then 8 else 0

/-- One visit, from where the vehicle is. -/
def arV (a : Sp) (x : Vi) : Int := a.now + distV (a.px, a.py) (x.px, x.py)
def inB (a : Sp) (x : Vi) : Bool := waitB x.we x.wl (arV a x)
def beV (a : Sp) (x : Vi) : Int := waitV x.we x.wl (arV a x)
def tmV (a : Sp) (x : Vi) : Tm := ⟨arV a x, beV a x, beV a x + x.sv⟩
def goV (a : Sp) (x : Vi) : Sp := ⟨beV a x + x.sv, x.px, x.py⟩
def good (y : Sp × Vi) : Bool := inB y.1 y.2
def stepsL : Sp → List Vi → List (Sp × Vi)
  | _, [] => []
  | a, x :: xs => (a, x) :: stepsL (goV a x) xs
def endA (a : Sp) (xs : List Vi) : Sp := xs.foldl goV a
def tmsL (ys : List (Sp × Vi)) : List Tm := ys.map fun y => tmV y.1 y.2
def allB (a : Sp) (xs : List Vi) : Bool := (stepsL a xs).all good

theorem stepsL_vis : ∀ (a : Sp) (xs : List Vi), (stepsL a xs).map (·.2) = xs
  | _, [] => rfl
  | a, x :: xs => by simp [stepsL, stepsL_vis]
theorem stepsL_length (a : Sp) (xs : List Vi) : (stepsL a xs).length = xs.length := by
  have := congrArg List.length (stepsL_vis a xs)
  simpa using this
theorem stepsL_append : ∀ (a : Sp) (xs ys : List Vi), stepsL a (xs ++ ys) = stepsL a xs ++ stepsL (endA a xs) ys
  | _, [], _ => rfl
  | a, x :: xs, ys => by simp [stepsL, endA, stepsL_append (goV a x) xs ys]
theorem endA_snoc (a : Sp) (xs : List Vi) (x : Vi) : endA a (xs ++ [x]) = goV (endA a xs) x := by simp [endA]
theorem tmsL_snoc (ys : List (Sp × Vi)) (y : Sp × Vi) : tmsL (ys ++ [y]) = tmsL ys ++ [tmV y.1 y.2] := by simp [tmsL]
theorem stepsL_get {a : Sp} : ∀ {xs : List Vi} {pre : List (Sp × Vi)} {y : Sp × Vi} {rest : List (Sp × Vi)}, stepsL a xs = pre ++ y :: rest → y.1 = endA a (pre.map (·.2)) := by
  intro xs pre y rest h
  have hv := stepsL_vis a xs
  rw [h, List.map_append, List.map_cons] at hv
  have h2 := stepsL_append a (pre.map (·.2)) (y.2 :: rest.map (·.2))
  rw [hv, h] at h2
  have hl : pre.length = (stepsL a (pre.map (·.2))).length := by rw [stepsL_length]; simp
  have h3 := (List.append_inj h2 hl).2
  rw [stepsL] at h3
  injection h3 with h4 _
  rw [h4]

def sp0 (v : Vh) : Sp := ⟨v.st, v.hx, v.hy⟩
def homeV (v : Vh) : Vi := ⟨v.hx, v.hy, 0, v.en, 0⟩
def visL (t : List Rq) (l : List (Int × Int)) : List Vi := l.map (visV t)
/-- The times of all stops, where nothing is wrong. -/
def rowT (v : Vh) (l : List (Int × Int)) (t : List Rq) : List Tm := tmsL (stepsL (sp0 v) (visL t l))
def endT (v : Vh) (l : List (Int × Int)) (t : List Rq) : Int := arV (endA (sp0 v) (visL t l)) (homeV v)
def okT (v : Vh) (l : List (Int × Int)) (t : List Rq) : Bool := allB (sp0 v) (visL t l) && decide (endT v l t ≤ v.en)
def errT (v : Vh) (l : List (Int × Int)) (t : List Rq) : Int := if wrongV v l t ≠ 0 then wrongV v l t else if okT v l t then 0 else 9
/-- What Times answers. -/
def timesL (v : Vh) (l : List (Int × Int)) (t : List Rq) : List Tm := if errT v l t = 0 then rowT v l t else []
def homeT (v : Vh) (l : List (Int × Int)) (t : List Rq) : Int := if errT v l t = 0 then endT v l t else 0
/-- What Spent answers. -/
def waitS (ts : List Tm) : Int := ts.foldl (fun n x => n + (x.be - x.ar)) 0
def servS (ts : List Tm) : Int := ts.foldl (fun n x => n + (x.lv - x.be)) 0
def leftS (n : Int) (ts : List Tm) : Int := ts.foldl (fun _ x => x.lv) n
def wayS (n : Int) : List Tm → Int
  | [] => 0
  | x :: ts => (x.ar - n) + wayS x.lv ts
def wayT (v : Vh) (l : List (Int × Int)) (t : List Rq) : Int := if errT v l t = 0 then endT v l t - v.st - waitS (rowT v l t) - servS (rowT v l t) else 0
def waitT (v : Vh) (l : List (Int × Int)) (t : List Rq) : Int := waitS (timesL v l t)
def servT (v : Vh) (l : List (Int × Int)) (t : List Rq) : Int := servS (timesL v l t)

theorem foldl_add (f : Tm → Int) (ts : List Tm) (n : Int) : ts.foldl (fun n x => n + f x) n = n + ts.foldl (fun n x => n + f x) 0 := by
  induction ts generalizing n with
  | nil => simp
  | cons x ts ih => rw [List.foldl_cons, List.foldl_cons, ih, ih (0 + f x)]; omega
theorem waitS_snoc (ts : List Tm) (x : Tm) : waitS (ts ++ [x]) = waitS ts + (x.be - x.ar) := by simp [waitS]
theorem servS_snoc (ts : List Tm) (x : Tm) : servS (ts ++ [x]) = servS ts + (x.lv - x.be) := by simp [servS]
theorem leftS_snoc (n : Int) (ts : List Tm) (x : Tm) : leftS n (ts ++ [x]) = x.lv := by simp [leftS]
theorem waitS_cons (ts : List Tm) (x : Tm) : waitS (x :: ts) = (x.be - x.ar) + waitS ts := by
  unfold waitS
  rw [List.foldl_cons, foldl_add]
  omega
theorem servS_cons (ts : List Tm) (x : Tm) : servS (x :: ts) = (x.lv - x.be) + servS ts := by
  unfold servS
  rw [List.foldl_cons, foldl_add]
  omega
theorem wayS_snoc : ∀ (ts : List Tm) (n : Int) (x : Tm), wayS n (ts ++ [x]) = wayS n ts + (x.ar - leftS n ts)
  | [], n, x => by simp [wayS, leftS]
  | y :: ts, n, x => by
    rw [List.cons_append, wayS, wayS_snoc ts, wayS]
    simp [leftS]
    omega
theorem way_all : ∀ (ts : List Tm) (n : Int), wayS n ts + waitS ts + servS ts = leftS n ts - n
  | [], n => by simp [wayS, waitS, servS, leftS]
  | x :: ts, n => by
    have := way_all ts x.lv
    rw [wayS, waitS_cons, servS_cons]
    have e : leftS n (x :: ts) = leftS x.lv ts := rfl
    omega
theorem left_end : ∀ (xs : List Vi) (a : Sp), leftS a.now (tmsL (stepsL a xs)) = (endA a xs).now
  | [], a => rfl
  | x :: xs, a => by
    have := left_end xs (goV a x)
    exact this
theorem wayT_eq (v : Vh) (l : List (Int × Int)) (t : List Rq) (h : errT v l t = 0) : wayT v l t = wayS v.st (rowT v l t) + (endT v l t - leftS v.st (rowT v l t)) := by
  have := way_all (rowT v l t) v.st
  unfold wayT
  rw [if_pos h]
  omega

theorem wrong_bits (v : Vh) (l : List (Int × Int)) (t : List Rq) : wrongV v l t = 0 → v.chk = 0 ∧ (∀ q ∈ t, q.chk = 0) ∧ Route.checkV l = 0 ∧ ∀ s ∈ l, ∃ x, visO t s = some x := by
  unfold wrongV
  intro h
  split at h
  · omega
  rename_i h1
  split at h
  · omega
  rename_i h2
  split at h
  · omega
  rename_i h3
  split at h
  · omega
  rename_i h4
  refine ⟨by omega, fun q hq => ?_, by omega, fun s hs => ?_⟩
  · simp at h2
    exact h2 q hq
  · simp [visB] at h4
    have := h4 s.1 s.2 hs
    exact Option.ne_none_iff_exists'.1 this

end Go.Proofs.YthjdacbgcpldjaaDoor.When

/-
  What is known of one block of memory, whole: nothing here speaks of a program.
-/
namespace Go.Proofs.YthjdacbgcpldjaaDoor.Mem
open Go.RowKit

/-- Block g holds just these cells, of this type, and may be written. -/
def At (w : World) (g : Nat) (t : TypeId) (cs : Array Value) : Prop := w.heap[g]? = some (.cells cs t (0, 0))

variable {w v : World} {g : Nat} {t : TypeId} {cs : Array Value}
theorem At.cell (h : At w g t cs) (i : Nat) : w.cell? ⟨g, i, none⟩ = cs[i]? := cell_of_row w g i cs t (0, 0) h
theorem At.free (h : At w g t cs) (i : Nat) : w.frozen? ⟨g, i, none⟩ = false := by
  simp only [At] at h
  simp [World.frozen?, h]
theorem At.inside (h : At w g t cs) : g < w.heap.size := (Array.getElem?_eq_some_iff.1 h).1
theorem At.keep {B : Nat} (h : At w g t cs) (hb : Below B w v) (hg : g < B) : At v g t cs := (hb.block g hg).trans h
theorem At.drew (h : At w g t cs) : At w.drew g t cs := h
theorem At.drewN (h : At w g t cs) (n : Nat) : At (w.drewN n) g t cs := h
theorem At.alloc (h : At w g t cs) (o : Obj) : At (w.alloc o) g t cs := (Below.heap_alloc w o g h.inside).trans h
theorem At.new (w : World) (t : TypeId) (cs : Array Value) : At (w.alloc (.cells cs t)) w.heap.size t cs := heap_alloc_new w _
theorem At.new_ (w : World) (t : TypeId) (cs : Array Value) {n : Nat} (hn : n = w.heap.size) : At (w.alloc (.cells cs t)) n t cs := by subst hn; exact At.new w t cs
theorem At.put (h : At w g t cs) (i : Nat) (x : Value) : At (w.setCell ⟨g, i, none⟩ x) g t (cs.setIfInBounds i x) := by
  simp only [At] at h ⊢
  simp [World.setCell, Array.getElem?_modify, h]
theorem At.far (h : At w g t cs) {b : Nat} (hb : g ≠ b) (i : Nat) (x : Value) : At (w.setCell ⟨b, i, none⟩ x) g t cs := (Below.heap_setCell w ⟨b, i, none⟩ x g hb).trans h

end Go.Proofs.YthjdacbgcpldjaaDoor.Mem

/-
  What memory holds of a row of stops: a slice that may begin anywhere.
-/
namespace Go.Proofs.YthjdacbgcpldjaaDoor.Route
open Go.RowKit Go.Proofs.YthjdacbgcpldjaaDoor.Mem
set_option linter.unusedVariables false

theorem ret_int {k : IntKind} {a b : Int} (h : a = b) : Ending.returned (.int k a) = .returned (.int k b) := by rw [h]
theorem ret_bool {a b : Bool} (h : a = b) : Ending.returned (.bool a) = .returned (.bool b) := by rw [h]
theorem below_grow {n : Nat} {A B C : World} {row : Option Nat} (h : Below n A B) (hg : B.grownBy C row) (hn : n ≤ B.heap.size) (hr : ∀ r, row = some r → n ≤ r) : Below n A C := h.grown hg hn hr

/-- A number of 64 bits. -/
def I64 (r : Int) : Prop := -9223372036854775808 ≤ r ∧ r ≤ 9223372036854775807
theorem I64.wf {r : Int} (h : I64 r) : (Lit.int .i64 r).wf = true := (Lit.wf_int_iff _ _).2 ⟨by have := h.1; simp [IntKind.min, IntKind.bits, IntKind.signed]; omega, by have := h.2; simp [IntKind.max, IntKind.bits, IntKind.signed]; omega⟩
def Nums (l : List (Int × Int)) : Prop := ∀ s ∈ l, I64 s.1 ∧ I64 s.2

/-- The slice v holds just these values, one a cell or m a cell, in a block below B. -/
def RowB (B : Nat) (W : World) (v : Value) (m : Nat) (rows : List (List Value)) : Prop :=
  ∃ x cap, v = .slice x rows.length cap ∧ rows.length ≤ cap ∧ cap ≤ maxLen ∧ (x = none → rows = [] ∧ cap = 0) ∧
    ∀ j r, rows[j]? = some r → ∃ g o, x = some ⟨g, o, none⟩ ∧ g < B ∧ ∀ k u, r[k]? = some u → W.cell? ⟨g, o + j * m + k, none⟩ = some u
theorem RowB.keep {B C : Nat} {W W' : World} {v : Value} {m : Nat} {rows : List (List Value)} (h : RowB B W v m rows) (hb : Below C W W') (hB : B ≤ C) : RowB B W' v m rows := by
  obtain ⟨x, cap, rfl, h1, h2, h0, h3⟩ := h
  refine ⟨x, cap, rfl, h1, h2, h0, fun j r hj => ?_⟩
  obtain ⟨g, o, rfl, hg, hc⟩ := h3 j r hj
  exact ⟨g, o, rfl, hg, fun k u hk => (hb.cell (p := ⟨g, o + j * m + k, none⟩) (by show g < C; omega)).trans (hc k u hk)⟩
theorem RowB.more {B C : Nat} {W : World} {v : Value} {m : Nat} {rows : List (List Value)} (h : RowB B W v m rows) (hB : B ≤ C) : RowB C W v m rows := by
  obtain ⟨x, cap, rfl, h1, h2, h0, h3⟩ := h
  refine ⟨x, cap, rfl, h1, h2, h0, fun j r hj => ?_⟩
  obtain ⟨g, o, rfl, hg, hc⟩ := h3 j r hj
  exact ⟨g, o, rfl, by omega, hc⟩
theorem RowB.on {W W' : World} {v : Value} {m : Nat} {rows : List (List Value)} (h : RowB W.heap.size W v m rows) (hb : Below W.heap.size W W') : RowB W'.heap.size W' v m rows := (h.keep hb (Nat.le_refl _)).more hb.size
theorem RowB.row {B : Nat} {W : World} {x : Option Addr} {n cap m : Nat} {rows : List (List Value)} (h : RowB B W (.slice x n cap) m rows) {j : Nat} {r : List Value} (hj : rows[j]? = some r) :
    ∃ g o, x = some ⟨g, o, none⟩ ∧ g < B ∧ ∀ k u, r[k]? = some u → W.cell? ⟨g, o + j * m + k, none⟩ = some u := by
  obtain ⟨x', cap', e, _, _, _, h3⟩ := h
  cases e
  exact h3 j r hj

def stV (s : Int × Int) : List Value := [.int .i64 s.1, .int .i64 s.2]
def inV (r : Int) : List Value := [.int .i64 r]
/-- A row of stops; a row of numbers. -/
def Row (B : Nat) (W : World) (v : Value) (l : List (Int × Int)) : Prop := RowB B W v 2 (l.map stV)
def Ints (B : Nat) (W : World) (v : Value) (l : List Int) : Prop := RowB B W v 1 (l.map inV)
def flatS (l : List (Int × Int)) : List Value := (l.map stV).flatten
def flatI (l : List Int) : List Value := (l.map inV).flatten
theorem flatS_snoc (l : List (Int × Int)) (s : Int × Int) : flatS (l ++ [s]) = flatS l ++ [.int .i64 s.1, .int .i64 s.2] := by simp [flatS, stV]
theorem flatI_snoc (l : List Int) (s : Int) : flatI (l ++ [s]) = flatI l ++ [.int .i64 s] := by simp [flatI, inV]
theorem flatS_append (a b : List (Int × Int)) : flatS (a ++ b) = flatS a ++ flatS b := by simp [flatS]
theorem flatS_length (l : List (Int × Int)) : (flatS l).length = l.length * 2 := by
  induction l with
  | nil => rfl
  | cons s l ih =>
    have : flatS (s :: l) = stV s ++ flatS l := by simp [flatS]
    rw [this, List.length_append, ih]
    simp [stV]
    omega
theorem flatI_length (l : List Int) : (flatI l).length = l.length * 1 := by
  induction l with
  | nil => rfl
  | cons s l ih =>
    have : flatI (s :: l) = inV s ++ flatI l := by simp [flatI]
    rw [this, List.length_append, ih]
    simp [inV]
    omega
theorem flatS_one {l : List (Int × Int)} : ∀ u ∈ flatS l, u.oneCell' = true := by
  intro u hu
  simp only [flatS, List.mem_flatten, List.mem_map] at hu
  obtain ⟨r, ⟨s, _, rfl⟩, hu⟩ := hu
  simp only [stV, List.mem_cons, List.not_mem_nil, or_false] at hu
  rcases hu with rfl | rfl <;> rfl
theorem flat_get {α : Type} {m : Nat} : ∀ {rows : List (List α)}, (∀ r ∈ rows, r.length = m) → ∀ j r, rows[j]? = some r → ∀ k u, r[k]? = some u → rows.flatten[j * m + k]? = some u
  | [], _, j, r, hj, _, _, _ => by simp at hj
  | r0 :: rows, hm, j, r, hj, k, u, hk => by
    have h0 := hm r0 (List.mem_cons_self ..)
    rw [List.flatten_cons]
    cases j with
    | zero =>
      simp at hj
      subst hj
      have := (List.getElem?_eq_some_iff.1 hk).1
      rw [List.getElem?_append_left (by omega)]
      simpa using hk
    | succ j =>
      have hj' : rows[j]? = some r := by simpa using hj
      have ih := flat_get (fun r hr => hm r (List.mem_cons_of_mem _ hr)) j r hj' k u hk
      rw [List.getElem?_append_right (by rw [h0, Nat.succ_mul]; omega), h0, show (j + 1) * m + k - m = j * m + k by rw [Nat.succ_mul]; omega]
      exact ih
theorem flat_of {α : Type} {m : Nat} (hm : 0 < m) : ∀ {rows : List (List α)}, (∀ r ∈ rows, r.length = m) → ∀ i u, rows.flatten[i]? = some u → ∃ j k r, i = j * m + k ∧ rows[j]? = some r ∧ r[k]? = some u
  | [], _, i, u, h => by simp at h
  | r0 :: rows, hl, i, u, h => by
    have h0 := hl r0 (List.mem_cons_self ..)
    rw [List.flatten_cons] at h
    rcases Nat.lt_or_ge i r0.length with hi | hi
    · rw [List.getElem?_append_left hi] at h
      exact ⟨0, i, r0, by omega, rfl, h⟩
    · rw [List.getElem?_append_right hi] at h
      obtain ⟨j, k, r, e, h1, h2⟩ := flat_of hm (fun r hr => hl r (List.mem_cons_of_mem _ hr)) _ u h
      exact ⟨j + 1, k, r, by rw [Nat.succ_mul]; omega, by simpa using h1, h2⟩

theorem RowB.nil (B : Nat) (W : World) (m : Nat) : RowB B W (.slice none 0 0) m [] := ⟨none, 0, rfl, Nat.le_refl _, Nat.zero_le _, fun _ => ⟨rfl, rfl⟩, fun j r hj => by simp at hj⟩
/-- A block that holds rows one behind the other. -/
theorem RowB.of_at {B : Nat} {W : World} {g m cap : Nat} {t : TypeId} {cs : Array Value} {rows : List (List Value)} (h : At W g t cs) (hg : g < B) (hm : ∀ r ∈ rows, r.length = m) (hcs : ∀ (i : Nat) (u : Value), rows.flatten[i]? = some u → cs[i]? = some u) (hc : rows.length ≤ cap) (hcap : cap ≤ maxLen) :
    RowB B W (.slice (some ⟨g, 0, none⟩) rows.length cap) m rows :=
  ⟨_, cap, rfl, hc, hcap, fun e => (by cases e), fun j r hj => ⟨g, 0, rfl, hg, fun k u hk => by
    rw [Nat.zero_add]
    exact (h.cell _).trans (hcs _ _ (flat_get hm j r hj k u hk))⟩⟩
theorem RowB.of_owns {B : Nat} {W : World} {base m n : Nat} {e : TypeId} {v : Value} {rows : List (List Value)} (h : W.ownsRow base e m v n rows.flatten) (hn : n = rows.length) (hm : ∀ r ∈ rows, r.length = m) (hB : W.heap.size ≤ B) : RowB B W v m rows := by
  subst hn
  obtain ⟨hl, ⟨rfl, h0⟩ | ⟨g, cap, cur, rfl, hb, hg, hc1, hc2, hs, ht⟩⟩ := h
  · obtain rfl : rows = [] := List.eq_nil_of_length_eq_zero h0
    exact .nil B W m
  · refine RowB.of_at (t := e) (cs := cur) hg (Nat.lt_of_lt_of_le (Array.getElem?_eq_some_iff.1 hg).1 hB) hm (fun i u hu => ?_) hc1 hc2
    have hi : i < rows.length * m := by
      have := (List.getElem?_eq_some_iff.1 hu).1
      omega
    rw [← ht, List.getElem?_take_of_lt hi] at hu
    simpa using hu
theorem Row.of_owns {B : Nat} {W : World} {base n : Nat} {e : TypeId} {v : Value} {l : List (Int × Int)} (h : W.ownsRow base e 2 v n (flatS l)) (hn : n = l.length) (hB : W.heap.size ≤ B) : Row B W v l :=
  RowB.of_owns h (by simpa using hn) (fun r hr => by obtain ⟨s, _, rfl⟩ := List.mem_map.1 hr; rfl) hB
theorem Ints.of_owns {B : Nat} {W : World} {base n : Nat} {e : TypeId} {v : Value} {l : List Int} (h : W.ownsRow base e 1 v n (flatI l)) (hn : n = l.length) (hB : W.heap.size ≤ B) : Ints B W v l :=
  RowB.of_owns h (by simpa using hn) (fun r hr => by obtain ⟨s, _, rfl⟩ := List.mem_map.1 hr; rfl) hB
theorem Row.keep {B C : Nat} {W W' : World} {v : Value} {l : List (Int × Int)} (h : Row B W v l) (hb : Below C W W') (hB : B ≤ C) : Row B W' v l := RowB.keep h hb hB
theorem Row.more {B C : Nat} {W : World} {v : Value} {l : List (Int × Int)} (h : Row B W v l) (hB : B ≤ C) : Row C W v l := RowB.more h hB
theorem Row.on {W W' : World} {v : Value} {l : List (Int × Int)} (h : Row W.heap.size W v l) (hb : Below W.heap.size W W') : Row W'.heap.size W' v l := RowB.on h hb
theorem Ints.keep {B C : Nat} {W W' : World} {v : Value} {l : List Int} (h : Ints B W v l) (hb : Below C W W') (hB : B ≤ C) : Ints B W' v l := RowB.keep h hb hB
theorem Ints.on {W W' : World} {v : Value} {l : List Int} (h : Ints W.heap.size W v l) (hb : Below W.heap.size W W') : Ints W'.heap.size W' v l := RowB.on h hb
theorem Row.slice {B : Nat} {W : World} {v : Value} {l : List (Int × Int)} (h : Row B W v l) : ∃ x cap, v = .slice x l.length cap ∧ l.length ≤ cap ∧ cap ≤ maxLen ∧ (x = none → l = [] ∧ cap = 0) := by
  obtain ⟨x, cap, rfl, h1, h2, h0, _⟩ := h
  refine ⟨x, cap, by simp, by simpa using h1, h2, fun e => ?_⟩
  have := h0 e
  simpa using this
theorem Ints.slice {B : Nat} {W : World} {v : Value} {l : List Int} (h : Ints B W v l) : ∃ x cap, v = .slice x l.length cap ∧ l.length ≤ cap ∧ cap ≤ maxLen := by
  obtain ⟨x, cap, rfl, h1, h2, _, _⟩ := h
  exact ⟨x, cap, by simp, by simpa using h1, h2⟩
/-- The k-th stop's cells. -/
theorem Row.stop {B : Nat} {W : World} {x : Option Addr} {n cap : Nat} {l : List (Int × Int)} (h : Row B W (.slice x n cap) l) {k : Nat} {s : Int × Int} (hk : l[k]? = some s) :
    ∃ g o, x = some ⟨g, o, none⟩ ∧ g < B ∧ W.cell? ⟨g, o + k * 2, none⟩ = some (.int .i64 s.1) ∧ W.cell? ⟨g, o + k * 2 + 1, none⟩ = some (.int .i64 s.2) := by
  obtain ⟨g, o, e, hg, hc⟩ := RowB.row h (j := k) (r := stV s) (by rw [List.getElem?_map, hk]; rfl)
  exact ⟨g, o, e, hg, hc 0 _ rfl, hc 1 _ rfl⟩
theorem Ints.number {B : Nat} {W : World} {x : Option Addr} {n cap : Nat} {l : List Int} (h : Ints B W (.slice x n cap) l) {k : Nat} {s : Int} (hk : l[k]? = some s) :
    ∃ g o, x = some ⟨g, o, none⟩ ∧ g < B ∧ W.cell? ⟨g, o + k, none⟩ = some (.int .i64 s) := by
  obtain ⟨g, o, e, hg, hc⟩ := RowB.row h (j := k) (r := inV s) (by rw [List.getElem?_map, hk]; rfl)
  exact ⟨g, o, e, hg, by simpa using hc 0 _ rfl⟩

theorem owns_below {W W' : World} {base : Nat} {e : TypeId} {size n : Nat} {v : Value} {xs : List Value} (h : W.ownsRow base e size v n xs) (hb : Below W.heap.size W W') : W'.ownsRow base e size v n xs := by
  obtain ⟨hl, h1 | ⟨g, cap, cur, rfl, hg1, hg, hr⟩⟩ := h
  · exact ⟨hl, .inl h1⟩
  · exact ⟨hl, .inr ⟨g, cap, cur, rfl, hg1, (hb.block g (Array.getElem?_eq_some_iff.1 hg).1).trans hg, hr⟩⟩
theorem owns_row {W : World} {base : Nat} {e : TypeId} {size n : Nat} {v : Value} {xs : List Value} (h : W.ownsRow base e size v n xs) : ∀ r, v.ownBlock = some r → base ≤ r := by
  obtain ⟨hl, ⟨rfl, h0⟩ | ⟨g, cap, cur, rfl, hb, hg, hc1, hc2, hs, ht⟩⟩ := h
  · intro r e; cases e
  · intro r e
    simp only [Value.ownBlock, Option.some.injEq] at e
    omega

theorem info_parts {t : TypeId} {n bytes : Nat} {z : Value} (h : (Tryd.prog.info? t).map (fun i => (i.zero, i.size, i.bytes)) = some (some z, n, bytes)) :
    ∃ i, Tryd.prog.info? t = some i ∧ i.zero = some z ∧ i.size = n ∧ i.bytes = bytes := by
  cases hi : Tryd.prog.info? t with
  | none => rw [hi] at h; simp at h
  | some i =>
    rw [hi] at h
    simp at h
    exact ⟨i, rfl, h.1, h.2.1, h.2.2⟩
theorem info_stop : (Tryd.prog.info? 66).map (fun i => (i.zero, i.size, i.bytes)) = some (some (.agg #[.int .i64 0, .int .i64 0]), 2, 16) := by kernel_rfl
theorem info_int : (Tryd.prog.info? 3).map (fun i => (i.zero, i.size, i.bytes)) = some (some (.int .i64 0), 1, 8) := by kernel_rfl
theorem drop_cons {α : Type} {l : List α} {k : Nat} {x : α} {rest : List α} (h : l.drop k = x :: rest) : k < l.length ∧ l[k]? = some x ∧ l.drop (k + 1) = rest := by
  have h1 : k < l.length := by
    rcases Nat.lt_or_ge k l.length with h1 | h1
    · exact h1
    · rw [List.drop_eq_nil_of_le h1] at h; cases h
  have h2 := List.drop_eq_getElem_cons h1
  rw [h] at h2
  cases h2
  exact ⟨h1, List.getElem?_eq_getElem h1, rfl⟩
theorem drop_nil {α : Type} {l : List α} {k : Nat} (h : l.drop k = []) : l.length ≤ k := List.drop_eq_nil_iff.1 h

end Go.Proofs.YthjdacbgcpldjaaDoor.Route

/-
  What package load answers, in plain numbers and lists. No program is spoken of here.
-/
namespace Go.Proofs.YthjdacbgcpldjaaDoor.Load
open Go.Proofs.YthjdacbgcpldjaaDoor.Order Go.Proofs.YthjdacbgcpldjaaDoor.Place Go.Proofs.YthjdacbgcpldjaaDoor.Route Go.Proofs.YthjdacbgcpldjaaDoor.When
set_option linter.unusedVariables false

/-- A number more, in its place; numbers that rise. -/
def ins (n : Int) : List Int → List Int
  | [] => [n]
  | x :: xs => if x < n then x :: ins n xs else n :: x :: xs
def Rise (l : List Int) : Prop := l.Pairwise (· < ·)
theorem mem_ins {n r : Int} : ∀ {l : List Int}, r ∈ ins n l ↔ r = n ∨ r ∈ l
  | [] => by simp [ins]
  | x :: xs => by
    unfold ins
    split
    · rw [List.mem_cons, mem_ins, List.mem_cons]
      exact ⟨fun h => by rcases h with h | h | h <;> simp [h], fun h => by rcases h with h | h | h <;> simp [h]⟩
    · rw [List.mem_cons]
theorem ins_length (n : Int) : ∀ l : List Int, (ins n l).length = l.length + 1
  | [] => rfl
  | x :: xs => by
    unfold ins
    split
    · simp [ins_length n xs]
    · simp
theorem rise_ins {n : Int} : ∀ {l : List Int}, Rise l → n ∉ l → Rise (ins n l)
  | [], _, _ => by simp [ins, Rise]
  | x :: xs, h, hn => by
    obtain ⟨h1, h2⟩ := List.pairwise_cons.1 h
    unfold ins
    split
    · rename_i hx
      refine List.pairwise_cons.2 ⟨fun y hy => ?_, rise_ins h2 (fun hm => hn (List.mem_cons_of_mem _ hm))⟩
      rcases mem_ins.1 hy with rfl | hy
      · exact hx
      · exact h1 y hy
    · rename_i hx
      have hne : x ≠ n := fun e => hn (by rw [e]; exact List.mem_cons_self ..)
      refine List.pairwise_cons.2 ⟨fun y hy => ?_, h⟩
      rcases List.mem_cons.1 hy with rfl | hy
      · omega
      · have := h1 y hy; omega
theorem rise_ext : ∀ {a b : List Int}, Rise a → Rise b → (∀ r, r ∈ a ↔ r ∈ b) → a = b
  | [], [], _, _, _ => rfl
  | [], y :: b, _, _, h => by have := (h y).2 (List.mem_cons_self ..); cases this
  | x :: a, [], _, _, h => by have := (h x).1 (List.mem_cons_self ..); cases this
  | x :: a, y :: b, ha, hb, h => by
    obtain ⟨a1, a2⟩ := List.pairwise_cons.1 ha
    obtain ⟨b1, b2⟩ := List.pairwise_cons.1 hb
    have hxy : x = y := by
      rcases List.mem_cons.1 ((h x).1 (List.mem_cons_self ..)) with e | e
      · exact e
      · rcases List.mem_cons.1 ((h y).2 (List.mem_cons_self ..)) with e2 | e2
        · exact e2.symm
        · have := b1 x e; have := a1 y e2; omega
    subst hxy
    rw [rise_ext a2 b2 fun r => ?_]
    constructor
    · intro hr
      rcases List.mem_cons.1 ((h r).1 (List.mem_cons_of_mem _ hr)) with e | e
      · have := a1 r hr; omega
      · exact e
    · intro hr
      rcases List.mem_cons.1 ((h r).2 (List.mem_cons_of_mem _ hr)) with e | e
      · have := b1 r hr; omega
      · exact e

/-- Is a request open behind these stops: was its last Pick or Drop a Pick? -/
def opS (b : Bool) (k : Int) : Bool := if k = 0 then true else if k = 1 then false else b
def opB (l : List (Int × Int)) (r : Int) : Bool := l.foldl (fun b s => if s.1 = r then opS b s.2 else b) false
theorem opB_snoc (l : List (Int × Int)) (s : Int × Int) (r : Int) : opB (l ++ [s]) r = if s.1 = r then opS (opB l r) s.2 else opB l r := by simp [opB]
theorem opB_nil (r : Int) : opB [] r = false := rfl
theorem fold_ofR (r : Int) : ∀ (l : List (Int × Int)) (b : Bool), l.foldl (fun b s => if s.1 = r then opS b s.2 else b) b = (ofR r l).foldl (fun b s => if s.1 = r then opS b s.2 else b) b
  | [], b => rfl
  | s :: l, b => by
    by_cases h : s.1 = r
    · rw [ofR_cons_same h, List.foldl_cons, List.foldl_cons, fold_ofR r l]
    · rw [ofR_cons_other h, List.foldl_cons, if_neg h, fold_ofR r l]
theorem opB_ofR (l : List (Int × Int)) (r : Int) : opB l r = opB (ofR r l) r := fold_ofR r l false
theorem opB_mem {l : List (Int × Int)} {r : Int} (h : opB l r = true) : noR r l = false := by
  cases hn : noR r l
  · rfl
  · rw [opB_ofR, noR_ofR.1 hn] at h
    cases h

/-- How the document finds it: picks, drops, and whether this is the first stop of its request. -/
def pkB (l : List (Int × Int)) (r : Int) : Bool := l.any fun s => decide (s.1 = r) && decide (s.2 = 0)
def dpB (l : List (Int × Int)) (r : Int) : Bool := l.foldl (fun b s => if s.1 = r then (if s.2 = 0 then false else if s.2 = 1 then true else b) else b) false
theorem pkB_snoc (l : List (Int × Int)) (s : Int × Int) (r : Int) : pkB (l ++ [s]) r = (pkB l r || (decide (s.1 = r) && decide (s.2 = 0))) := by simp [pkB]
theorem dpB_snoc (l : List (Int × Int)) (s : Int × Int) (r : Int) : dpB (l ++ [s]) r = if s.1 = r then (if s.2 = 0 then false else if s.2 = 1 then true else dpB l r) else dpB l r := by simp [dpB]
theorem snoc_ind {α : Type} {P : List α → Prop} (h0 : P []) (h1 : ∀ l s, P l → P (l ++ [s])) (l : List α) : P l := by
  have : ∀ l : List α, P l.reverse := by
    intro l
    induction l with
    | nil => exact h0
    | cons s l ih => rw [List.reverse_cons]; exact h1 _ _ ih
  have h := this l.reverse
  rwa [List.reverse_reverse] at h
theorem opB_pd (l : List (Int × Int)) (r : Int) : opB l r = (pkB l r && !dpB l r) := by
  induction l using snoc_ind with
  | h0 => rfl
  | h1 l s ih =>
    rw [opB_snoc, pkB_snoc, dpB_snoc, ih]
    by_cases h : s.1 = r
    · rw [if_pos h, if_pos h]
      unfold opS
      by_cases h0 : s.2 = 0
      · simp [h, h0]
      · by_cases h2 : s.2 = 1
        · simp [h, h2]
        · simp [h, h0, h2]
    · simp [h]
/-- What is open, rising: as the document goes through a row. -/
def opT (l : List (Int × Int)) : Nat → List Int
  | 0 => []
  | i + 1 => match l[i]? with
    | some s => if noR s.1 (l.take i) && opB l s.1 then ins s.1 (opT l i) else opT l i
    | none => opT l i
def opL (l : List (Int × Int)) : List Int := opT l l.length
theorem opT_yes {l : List (Int × Int)} {i : Nat} {s : Int × Int} (h : l[i]? = some s) (hb : (noR s.1 (l.take i) && opB l s.1) = true) : opT l (i + 1) = ins s.1 (opT l i) := by rw [opT, h]; simp only; rw [if_pos hb]
theorem opT_no {l : List (Int × Int)} {i : Nat} {s : Int × Int} (h : l[i]? = some s) (hb : (noR s.1 (l.take i) && opB l s.1) = false) : opT l (i + 1) = opT l i := by rw [opT, h]; simp only; rw [hb]; rfl
theorem take_get {α : Type} {l : List α} {k : Nat} {s : α} (h : l[k]? = some s) : l.take (k + 1) = l.take k ++ [s] := by rw [List.take_add_one, h]; rfl
theorem noR_snoc (r : Int) (l : List (Int × Int)) (s : Int × Int) : noR r (l ++ [s]) = (noR r l && decide (s.1 ≠ r)) := by simp [noR]
theorem opT_tells (l : List (Int × Int)) : ∀ i, i ≤ l.length → Rise (opT l i) ∧ (∀ r, r ∈ opT l i ↔ opB l r = true ∧ noR r (l.take i) = false) ∧ (opT l i).length ≤ i
  | 0, _ => ⟨List.Pairwise.nil, fun r => by simp [opT, noR], Nat.zero_le _⟩
  | i + 1, h => by
    obtain ⟨h1, h2, h3⟩ := opT_tells l i (by omega)
    have hs : l[i]? = some l[i] := List.getElem?_eq_getElem (by omega)
    have ht := take_get hs
    generalize l[i] = s at hs ht
    cases hb : (noR s.1 (l.take i) && opB l s.1)
    · rw [opT_no hs hb, ht]
      refine ⟨h1, fun r => ?_, by omega⟩
      rw [h2 r, noR_snoc]
      constructor
      · rintro ⟨a, b⟩; exact ⟨a, by rw [b]; rfl⟩
      · rintro ⟨a, b⟩
        refine ⟨a, ?_⟩
        by_cases e : s.1 = r
        · subst e
          rw [a, Bool.and_true] at hb
          exact hb
        · simpa [e] using b
    · rw [opT_yes hs hb, ht]
      rw [Bool.and_eq_true] at hb
      refine ⟨rise_ins h1 (fun hm => by have := ((h2 _).1 hm).2; rw [hb.1] at this; cases this), fun r => ?_, by rw [ins_length]; omega⟩
      rw [mem_ins, h2 r, noR_snoc]
      constructor
      · rintro (rfl | ⟨a, b⟩)
        · exact ⟨hb.2, by simp⟩
        · exact ⟨a, by rw [b]; rfl⟩
      · rintro ⟨a, b⟩
        by_cases e : s.1 = r
        · exact .inl e.symm
        · exact .inr ⟨a, by simpa [e] using b⟩
theorem opL_rise (l : List (Int × Int)) : Rise (opL l) := (opT_tells l _ (Nat.le_refl _)).1
theorem mem_opL {l : List (Int × Int)} {r : Int} : r ∈ opL l ↔ opB l r = true := by
  unfold opL
  rw [(opT_tells l _ (Nat.le_refl _)).2.1 r, List.take_length]
  exact ⟨fun h => h.1, fun h => ⟨h, opB_mem h⟩⟩
theorem opL_length (l : List (Int × Int)) : (opL l).length ≤ l.length := (opT_tells l _ (Nat.le_refl _)).2.2
theorem opL_eq {l : List (Int × Int)} {a : List Int} (ha : Rise a) (h : ∀ r, r ∈ a ↔ opB l r = true) : a = opL l := rise_ext ha (opL_rise l) fun r => (h r).trans mem_opL.symm

/-- Up to which stop: k, cut to the row. -/
def kN (l : List (Int × Int)) (k : Int) : Nat := (min (max k 0) (l.length : Int)).toNat
def opAt (l : List (Int × Int)) (k : Int) : List Int := opL (l.take (kN l k))

/-- Loads by number; what a stop changes; what is on board. -/
def ldR (t : List Rq) (r : Int) : Int := ((t[r.toNat]?).map Rq.ld).getD 0
def sg (k : Int) : Int := if k = 0 then 1 else -1
def stN (t : List Rq) (s : Int × Int) : Int := sg s.2 * ldR t s.1
def acc (t : List Rq) : List (Int × Int) → Int
  | [] => 0
  | s :: l => stN t s + acc t l
def sumL (t : List Rq) : List Int → Int
  | [] => 0
  | r :: l => ldR t r + sumL t l
theorem acc_append (t : List Rq) : ∀ a b : List (Int × Int), acc t (a ++ b) = acc t a + acc t b
  | [], b => by simp [acc]
  | s :: a, b => by rw [List.cons_append, acc, acc, acc_append t a b]; omega
theorem acc_snoc (t : List Rq) (a : List (Int × Int)) (s : Int × Int) : acc t (a ++ [s]) = acc t a + stN t s := by rw [acc_append]; simp [acc]
theorem sumL_append (t : List Rq) : ∀ a b : List Int, sumL t (a ++ b) = sumL t a + sumL t b
  | [], b => by simp [sumL]
  | s :: a, b => by rw [List.cons_append, sumL, sumL, sumL_append t a b]; omega
theorem sumL_snoc (t : List Rq) (a : List Int) (r : Int) : sumL t (a ++ [r]) = sumL t a + ldR t r := by rw [sumL_append]; simp [sumL]
theorem sumL_ins (t : List Rq) (r : Int) : ∀ a : List Int, sumL t (ins r a) = ldR t r + sumL t a
  | [] => rfl
  | x :: a => by
    unfold ins
    split
    · rw [sumL, sumL, sumL_ins t r a]; omega
    · rfl
/-- Behind each stop. -/
def prof (t : List Rq) (l : List (Int × Int)) : List Int := (List.range l.length).map fun k => acc t (l.take (k + 1))
theorem prof_length (t : List Rq) (l : List (Int × Int)) : (prof t l).length = l.length := by simp [prof]
theorem prof_get {t : List Rq} {l : List (Int × Int)} {k : Nat} (h : k < l.length) : (prof t l)[k]? = some (acc t (l.take (k + 1))) := by simp [prof, h]
def peakL (p : List Int) : Int := p.foldl max 0
theorem peakL_snoc (p : List Int) (x : Int) : peakL (p ++ [x]) = max (peakL p) x := by simp [peakL]
theorem peakL_bd (p : List Int) : 0 ≤ peakL p ∧ (∀ x ∈ p, x ≤ peakL p) ∧ (0 < peakL p → peakL p ∈ p) := by
  induction p using snoc_ind with
  | h0 => exact ⟨Int.le_refl _, (fun x hx => by cases hx), (fun h => by simp [peakL] at h)⟩
  | h1 p x ih =>
    obtain ⟨h1, h2, h3⟩ := ih
    rw [peakL_snoc]
    refine ⟨by omega, fun y hy => ?_, fun h => ?_⟩
    · rcases List.mem_append.1 hy with hy | hy
      · have := h2 y hy; omega
      · obtain rfl := List.mem_singleton.1 hy; omega
    · rcases Int.lt_or_le (peakL p) x with hx | hx
      · rw [show max (peakL p) x = x by omega]; simp
      · rw [show max (peakL p) x = peakL p by omega] at h ⊢
        exact List.mem_append.2 (.inl (h3 h))
/-- The first that is more than c; -1 where there is none. -/
def fstF (c : Int) : Nat → List Int → Int
  | _, [] => -1
  | k, x :: p => if c < x then k else fstF c (k + 1) p
def fstV (c : Int) (p : List Int) : Int := fstF c 0 p
theorem fstF_at {c x : Int} (hx : c < x) : ∀ {p q : List Int} {k : Nat}, (∀ y ∈ p, y ≤ c) → fstF c k (p ++ x :: q) = (k + p.length : Nat)
  | [], q, k, _ => by rw [List.nil_append, fstF, if_pos hx]; simp
  | y :: p, q, k, h => by
    have := h y (List.mem_cons_self ..)
    rw [List.cons_append, fstF, if_neg (by omega), fstF_at hx (fun z hz => h z (List.mem_cons_of_mem _ hz))]
    simp
    omega
theorem fstF_no {c : Int} : ∀ {p : List Int} {k : Nat}, (∀ y ∈ p, y ≤ c) → fstF c k p = -1
  | [], k, _ => rfl
  | y :: p, k, h => by
    have := h y (List.mem_cons_self ..)
    rw [fstF, if_neg (by omega), fstF_no (fun z hz => h z (List.mem_cons_of_mem _ hz))]
def moreB (c : Int) (p : List Int) : Bool := p.any fun x => decide (c < x)

/-- Is a route told by a list? -/
def outB (t : List Rq) (r : Int) : Bool := decide ((t.length : Int) ≤ r)
def badB (t : List Rq) (r : Int) : Bool := match t[r.toNat]? with | some q => decide (q.chk ≠ 0) | none => false
def toldV (l : List (Int × Int)) (t : List Rq) : Int :=
  if checkV l ≠ 0 then checkV l else if l.any (fun s => outB t s.1) then 8 else if l.any (fun s => badB t s.1) then 2 else 0
def profV (l : List (Int × Int)) (t : List Rq) : List Int := if toldV l t = 0 then prof t l else []
def peakV (l : List (Int × Int)) (t : List Rq) : Int := peakL (profV l t)
def fitAt (v : Vh) (l : List (Int × Int)) (t : List Rq) : Int := if v.chk = 0 then fstV v.cp (profV l t) else -1
def fitE (v : Vh) (l : List (Int × Int)) (t : List Rq) : Int := if v.chk ≠ 0 then v.chk else if toldV l t ≠ 0 then toldV l t else if moreB v.cp (profV l t) then 10 else 0

theorem check_isR {l : List (Int × Int)} (h : checkV l = 0) : isR l = true ∧ l.length ≤ 16 := by
  unfold checkV at h
  split at h
  · omega
  · split at h
    · rename_i h1 h2; exact ⟨h2, by omega⟩
    · omega
theorem picks_mem {l : List (Int × Int)} (h : isR l = true) {r : Int} : r ∈ picksL l ↔ ∃ s ∈ l, s.1 = r := by
  unfold picksL
  rw [List.mem_map]
  constructor
  · rintro ⟨s, hs, rfl⟩
    exact ⟨s, (List.mem_filter.1 hs).1, rfl⟩
  · rintro ⟨s, hs, rfl⟩
    have h1 := (isR_iff.1 h s hs).2
    have h2 : ((s.1, 0) : Int × Int) ∈ ofR s.1 l := by rw [h1]; simp
    exact ⟨(s.1, 0), List.mem_filter.2 ⟨(mem_ofR.1 h2).1, by simp⟩, rfl⟩
theorem any_picks {l : List (Int × Int)} (h : isR l = true) (f : Int → Bool) : (picksL l).any f = l.any fun s => f s.1 := by
  rw [Bool.eq_iff_iff, List.any_eq_true, List.any_eq_true]
  constructor
  · rintro ⟨r, hr, hf⟩
    obtain ⟨s, hs, rfl⟩ := (picks_mem h).1 hr
    exact ⟨s, hs, hf⟩
  · rintro ⟨s, hs, hf⟩
    exact ⟨s.1, (picks_mem h).2 ⟨s, hs, rfl⟩, hf⟩
/-- What is so of a route that is told. -/
theorem told_bits {l : List (Int × Int)} {t : List Rq} (h : toldV l t = 0) : isR l = true ∧ l.length ≤ 16 ∧ ∀ s ∈ l, ∃ q, t[s.1.toNat]? = some q ∧ 0 ≤ s.1 ∧ s.1 < t.length ∧ (1 ≤ q.ld ∧ q.ld ≤ 1000) ∧ (s.2 = 0 ∨ s.2 = 1) := by
  unfold toldV at h
  split at h
  · rename_i h1; exact absurd h h1
  · rename_i h1
    obtain ⟨h2, h3⟩ := check_isR (by omega : checkV l = 0)
    split at h
    · omega
    · rename_i h4
      split at h
      · omega
      · rename_i h5
        refine ⟨h2, h3, fun s hs => ?_⟩
        have h0 := (isR_iff.1 h2 s hs)
        have ho : outB t s.1 = false := by
          cases e : outB t s.1
          · rfl
          · exact absurd (List.any_eq_true.2 ⟨s, hs, e⟩) h4
        have hb : badB t s.1 = false := by
          cases e : badB t s.1
          · rfl
          · exact absurd (List.any_eq_true.2 ⟨s, hs, e⟩) h5
        simp only [outB, decide_eq_false_iff_not] at ho
        have hlt : s.1.toNat < t.length := by omega
        have hq : t[s.1.toNat]? = some t[s.1.toNat] := List.getElem?_eq_getElem hlt
        refine ⟨_, hq, h0.1, by omega, ?_, ?_⟩
        · unfold badB at hb
          rw [hq] at hb
          simp only [decide_eq_false_iff_not, Classical.not_not] at hb
          unfold Rq.chk at hb
          exact ((chk_iff ..).1 hb).2.2.1
        · have h6 : s ∈ ofR s.1 l := mem_ofR.2 ⟨hs, rfl⟩
          rw [h0.2] at h6
          simp only [List.mem_cons, List.not_mem_nil, or_false] at h6
          rcases h6 with h6 | h6 <;> rw [h6] <;> simp
theorem ldR_get {t : List Rq} {r : Int} {q : Rq} (h : t[r.toNat]? = some q) : ldR t r = q.ld := by simp [ldR, h]

/-- What is on board is the Loads of what is open, together. -/
theorem acc_open {l : List (Int × Int)} (t : List Rq) (h : isR l = true) : ∀ k, k ≤ l.length → acc t (l.take k) = sumL t (opL (l.take k))
  | 0, _ => by simp [acc, opL, opT, sumL]
  | k + 1, hk => by
    have ih := acc_open t h k (by omega)
    have hs : l[k]? = some l[k] := List.getElem?_eq_getElem (by omega)
    have hm : l[k] ∈ l := List.getElem_mem _
    have hd : l = l.take k ++ l[k] :: l.drop (k + 1) := by rw [← List.drop_eq_getElem_cons (by omega), List.take_append_drop]
    have ht := take_get hs
    generalize l[k] = s at hs hm hd ht
    rw [ht, acc_snoc, ih]
    have h2 := (isR_iff.1 h s hm).2
    rcases split3 hd rfl h2 with ⟨e, hp, _⟩ | ⟨e, hp, _⟩
    · have hf : opB (l.take k) s.1 = false := by rw [opB_ofR, hp]; rfl
      have : ins s.1 (opL (l.take k)) = opL (l.take k ++ [s]) := by
        refine opL_eq (rise_ins (opL_rise _) (fun hm => by rw [mem_opL, hf] at hm; cases hm)) fun r => ?_
        rw [mem_ins, mem_opL, opB_snoc]
        have e2 : s.2 = 0 := by rw [e]
        by_cases hr : s.1 = r
        · subst hr
          rw [if_pos rfl, e2]
          simp [opS]
        · rw [if_neg hr]
          exact ⟨fun h => by rcases h with h | h; exact absurd h.symm hr; exact h, .inr⟩
      rw [← this, sumL_ins]
      have e2 : s.2 = 0 := by rw [e]
      unfold stN sg
      rw [if_pos e2]
      omega
    · have hf : opB (l.take k) s.1 = true := by rw [opB_ofR, hp]; simp [opB, opS]
      have e2 : s.2 = 1 := by rw [e]
      have hno : opB (l.take k ++ [s]) s.1 = false := by rw [opB_snoc, if_pos rfl, e2]; simp [opS]
      have : ins s.1 (opL (l.take k ++ [s])) = opL (l.take k) := by
        refine opL_eq (rise_ins (opL_rise _) (fun hm => by rw [mem_opL, hno] at hm; cases hm)) fun r => ?_
        rw [mem_ins, mem_opL, opB_snoc]
        by_cases hr : s.1 = r
        · subst hr
          rw [hf]
          simp
        · rw [if_neg hr]
          exact ⟨fun h => by rcases h with h | h; exact absurd h.symm hr; exact h, .inr⟩
      rw [← this, sumL_ins]
      unfold stN sg
      rw [if_neg (by omega)]
      omega
theorem sumL_bd {t : List Rq} : ∀ {o : List Int}, (∀ r ∈ o, 0 ≤ ldR t r ∧ ldR t r ≤ 1000) → 0 ≤ sumL t o ∧ sumL t o ≤ 1000 * o.length
  | [], _ => by simp [sumL]
  | r :: o, h => by
    have h1 := h r (List.mem_cons_self ..)
    have h2 := sumL_bd (t := t) (fun x hx => h x (List.mem_cons_of_mem _ hx))
    rw [sumL, List.length_cons]
    omega
theorem opL_of {l : List (Int × Int)} {r : Int} (h : r ∈ opL l) : ∃ s ∈ l, s.1 = r := by
  have := opB_mem (mem_opL.1 h)
  cases hh : decide (∃ s ∈ l, s.1 = r)
  · exfalso
    have h2 : noR r l = true := noR_iff.2 fun s hs e => (of_decide_eq_false hh) ⟨s, hs, e⟩
    rw [h2] at this
    cases this
  · exact of_decide_eq_true hh
theorem ld_bd {l : List (Int × Int)} {t : List Rq} (h : toldV l t = 0) {s : Int × Int} (hs : s ∈ l) : 1 ≤ ldR t s.1 ∧ ldR t s.1 ≤ 1000 := by
  obtain ⟨q, hq, _, _, h5, _⟩ := (told_bits h).2.2 s hs
  rw [ldR_get hq]
  exact h5
theorem open_bd {l : List (Int × Int)} {t : List Rq} (h : toldV l t = 0) (k : Nat) : ∀ r ∈ opL (l.take k), 1 ≤ ldR t r ∧ ldR t r ≤ 1000 := fun r hr => by
  obtain ⟨s, hs, rfl⟩ := opL_of hr
  exact ld_bd h (List.mem_of_mem_take hs)
theorem open_len {l : List (Int × Int)} {t : List Rq} (h : toldV l t = 0) (k : Nat) : (opL (l.take k)).length ≤ 16 := by
  have := opL_length (l.take k)
  have h2 := (told_bits h).2.1
  rw [List.length_take] at this
  omega
theorem acc_bd {l : List (Int × Int)} {t : List Rq} (h : toldV l t = 0) {k : Nat} (hk : k ≤ l.length) : 0 ≤ acc t (l.take k) ∧ acc t (l.take k) ≤ 16000 := by
  rw [acc_open t (told_bits h).1 k hk]
  have h1 := sumL_bd (t := t) (o := opL (l.take k)) (fun r hr => by have := open_bd h k r hr; omega)
  have h2 := open_len h k
  omega
theorem acc_last {l : List (Int × Int)} (t : List Rq) (h : isR l = true) : acc t l = 0 := by
  have h1 := acc_open t h l.length (Nat.le_refl _)
  rw [List.take_length] at h1
  rw [h1]
  have : opL l = [] := by
    cases e : opL l with
    | nil => rfl
    | cons r o =>
      exfalso
      have hr : r ∈ opL l := by rw [e]; exact List.mem_cons_self ..
      obtain ⟨s, hs, rfl⟩ := opL_of hr
      have h2 := mem_opL.1 hr
      rw [opB_ofR, (isR_iff.1 h s hs).2] at h2
      simp [opB, opS] at h2
  rw [this]
  rfl
theorem prof_bd {l : List (Int × Int)} {t : List Rq} (h : toldV l t = 0) : ∀ x ∈ prof t l, 0 ≤ x ∧ x ≤ 16000 := by
  intro x hx
  unfold prof at hx
  obtain ⟨k, hk, rfl⟩ := List.mem_map.1 hx
  exact acc_bd h (by have := List.mem_range.1 hk; omega)

end Go.Proofs.YthjdacbgcpldjaaDoor.Load

/-
  A range over a function whose body never leaves, where rounds and iterator write the same memory: one predicate holds when a round begins, another one when it has ended. Nothing here speaks of a program.
-/
import Derived.RangeFuncNested
import Derived.RangeFuncBound
import Derived.RangeFuncCalls
import Derived.RangeFuncLeaves
import Derived.Shelf.Abstract
import Derived.Shelf.RegionOpen
import Derived.WalkKit
import Derived.OwnWalkIn
import Derived.TacticsInMore
import Derived.LoopNIn
import Derived.LoopIn
namespace Go.Proofs.YtkailfajemeeaaaDoor.Sha
open Go.RowKit
set_option linter.unusedVariables false

theorem roundAnyS {m m' : Nat} {P : Program} {l : Nat} {f : FuncId} {tmps : Array Value} {assign body : Code} {w : World} {R : Ending → World → Prop} (h : RoundIn Fence.wide m P l f tmps assign body w R) :
    RoundIn Fence.wide m' P l f tmps assign body w R := ⟨h.1, fun c cs _ => h.2 c cs (room_wide _)⟩
theorem yieldAnyS {m : Nat} (m' : Nat) {P : Program} {l : Nat} {args : Array Value} {W : World} {R : Ending → World → Prop} (h : YieldAt Fence.wide m P l args W R) : YieldAt Fence.wide m' P l args W R := by
  obtain ⟨fn, tmps, assign, body, hy, hR⟩ := h
  exact ⟨fn, tmps, assign, body, hy, roundAnyS hR⟩

/-- What new blocks, and turns of the range's own two blocks, leave. -/
def Stays (n : Nat) (I : World → Prop) : Prop := ∀ X Y row, I X → X.grownBy Y row → (∀ r, row = some r → r = n ∨ r = n + 1) → I Y
/-- What all turns leave but those of the range's own two blocks. -/
def Apart (n : Nat) (H : World → Prop) : Prop := ∀ X Y row, H X → X.grownBy Y row → (∀ r, row = some r → r ≠ n ∧ r ≠ n + 1) → H Y

/-- An iterator hands out just xs: 'Pre k' when round k begins, 'Post k' behind k rounds, 'End' at the end. -/
def GivesS {α : Type} (P : Program) (gf : Nat) (lb : Array Value) (encs : α → Array Value) (xs : List α) (n : Nat) (Pre Post : Nat → World → Prop) (End : World → Prop) : Prop :=
  ∀ (l : Nat) (H : World → Prop) (W : World), W.heap.size = n + 2 → Post 0 W → H W → Apart n H →
    (∀ (m k : Nat) x X, xs[k]? = some x → Pre k X → H X → YieldAt Fence.wide m P l (encs x) X fun e Y => e = .returned (.bool true) ∧ Post (k + 1) Y ∧ H Y ∧ X.heap.size ≤ Y.heap.size) →
    CallsIn Fence.wide 2 P gf (#[.func (.yield l) #[] #[]] ++ lb) W fun e Y => (∃ v, e = .returned v) ∧ End Y ∧ H Y

/-- Both blocks of a range are as they were. -/
structure HeldS (n : Nat) (W W' : World) : Prop where
  size : W.heap.size ≤ W'.heap.size
  a : W'.heap[n]? = W.heap[n]?
  b : W'.heap[n + 1]? = W.heap[n + 1]?
theorem HeldS.grown {n : Nat} {W W' : World} {row : Option Nat} (h : W.grownBy W' row) (hn : n + 1 < W.heap.size) (hr : ∀ r, row = some r → r ≠ n ∧ r ≠ n + 1) : HeldS n W W' :=
  ⟨h.size, h.block n (by omega) (fun e => (hr n e.symm).1 rfl), h.block (n + 1) hn (fun e => (hr (n + 1) e.symm).2 rfl)⟩
theorem HeldS.trans {n : Nat} {X Y Z : World} (h : HeldS n X Y) (k : HeldS n Y Z) : HeldS n X Z := ⟨Nat.le_trans h.size k.size, k.a.trans h.a, k.b.trans h.b⟩
/-- How the body of a round is left: off its end. -/
def offEndS (R : World → Prop) : Exit → Act → World → Prop
  | .normal, _, w => R w
  | _, _, _ => False
/-- How a round goes on behind the assignment to the loop's variables. -/
def GoOnS (P : Program) (l : Nat) (body : Code) (n : Nat) (R : World → Prop) (W : World) (a' : Act) (Wa : World) : Prop :=
  W.grownBy Wa none ∧ ∀ V, Wa.grownBy V (some (n + 1)) → V.heap.size = Wa.heap.size →
    body.wpIn (Fence.wide.inRound l) 1 P (offEndS fun W' => R W' ∧ HeldS n V W') a' V

set_option maxHeartbeats 1000000 in
theorem rangesS {α : Type} {P : Program} {g : Operand} {ps : Array Tmp} {assign body : Code} {Q : Exit → Act → World → Prop} {a : Act} {w : World}
    {gf : Nat} {lb : Array Value} (hg : a.eval g = .func (.func gf) #[] lb) (eg : ∀ args w, (callFunc gf args).run P w = .ok (.enter gf args) w)
    {encs : α → Array Value} {xs : List α} (hps : ∀ x, (encs x).size = ps.size) {Pre Post : Nat → World → Prop} {End : World → Prop} (hPre : ∀ k, Stays w.heap.size (Pre k)) (hPost : ∀ k, Stays w.heap.size (Post k)) (hEnd : Stays w.heap.size End) (h0 : Post 0 w)
    (hseq : GivesS P gf lb encs xs w.heap.size Pre Post End)
    (hround : ∀ (l k : Nat) (x : α) (W : World), xs[k]? = some x → w.heap.size + 2 ≤ W.heap.size → Pre k W →
      assign.wpIn (Fence.wide.inRound l) 1 P (Exit.then (GoOnS P l body w.heap.size (Post (k + 1)) W) (fun _ _ _ => False)) { tmps := (ps.zip (encs x)).foldl (fun t (p, v) => t.setIfInBounds p v) a.tmps, defers := [] } W)
    (hdone : ∀ (W : World), w.heap.size + 2 ≤ W.heap.size → End W → W.heap[w.heap.size]? = some (.deferred (some [])) → Q .normal { a with defers := { target := .collected w.heap.size, args := #[] } :: a.defers } W) :
    (Code.rangeFunc g ps assign body).wpIn Fence.wide 3 P Q a w := by
  refine wpIn_rangeFunc fun fn hfn => ?_
  let rec_ : LoopState → Loop := fun st => { state := st, pending := none, fn, tmps := a.tmps, params := ps, assign, body, defers := w.heap.size }
  let W1 : World := (w.alloc (.deferred (some []))).alloc (.loop (rec_ .ready))
  have hs1 : W1.heap.size = w.heap.size + 2 := by simp [W1]
  have hL : W1.heap[w.heap.size + 1]? = some (.loop (rec_ .ready)) := by
    have h := World.alloc_heap_new (w.alloc (.deferred (some []))) (.loop (rec_ .ready))
    rwa [World.size_alloc] at h
  have hD : W1.heap[w.heap.size]? = some (.deferred (some [])) := (Below.heap_alloc _ _ _ (by simp)).trans (World.alloc_heap_new w _)
  have none_ : ∀ r : Nat, (none : Option Nat) = some r → r = w.heap.size ∨ r = w.heap.size + 1 := fun r e => by cases e
  have hI1 : Post 0 W1 := hPost 0 _ _ none (hPost 0 _ _ none h0 (World.grownBy_alloc w _ none) none_) (World.grownBy_alloc _ _ none) none_
  let H : World → Prop := fun W => W.heap[w.heap.size + 1]? = some (.loop (rec_ .ready)) ∧ W.heap[w.heap.size]? = some (.deferred (some [])) ∧ w.heap.size + 2 ≤ W.heap.size
  refine ⟨w.heap.size + 1, [{ target := .collected w.heap.size, args := #[] }], W1, { target := .fn (.func gf) lb, args := #[.func (.yield (w.heap.size + 1)) #[] #[]] }, W1, gf,
    #[.func (.yield (w.heap.size + 1)) #[] #[]] ++ lb, W1, run_enterLoop_outer _ _ _ _ _, ?_, fun _ _ => trivial, by simp [invoke, go_sem, eg], fun _ => by omega, ?_⟩
  · simp only [resolve, hg]
    simp [go_sem]
  · refine (hseq (w.heap.size + 1) H W1 hs1 hI1 ⟨hL, hD, by omega⟩ ?_ ?_).mono ?_
    · rintro X Y row ⟨h1, h2, h3⟩ hgr hr
      exact ⟨(hgr.block _ (by omega) (fun e => (hr _ e.symm).2 rfl)).trans h1, (hgr.block _ (by omega) (fun e => (hr _ e.symm).1 rfl)).trans h2, Nat.le_trans h3 hgr.size⟩
    · rintro m k x W hx hp ⟨h2, h3, h4⟩
      refine yieldAnyS (m := 1) m ⟨fn, _, assign, body, run_yield h2 (hps x), roundIn_of_wpIn hfn (wpIn_mono (hround _ k x W hx h4 hp) ?_)⟩
      rintro ex a' Wa hex
      cases ex with
      | normal => ?_
      | _ => exact hex.elim
      obtain ⟨hga, hgo⟩ := hex
      have h2a := (hga.block (w.heap.size + 1) (by omega) (by simp)).trans h2
      have h3a := (hga.block w.heap.size (by omega) (by simp)).trans h3
      have h4a := hga.size
      refine ⟨Wa.putObj (w.heap.size + 1) (.loop { rec_ .ready with state := .busy }), run_beginRound h2a rfl, ?_⟩
      have hl2 : (Wa.putObj (w.heap.size + 1) (.loop { rec_ .ready with state := .busy })).heap[w.heap.size + 1]? = some (.loop { rec_ .ready with state := .busy }) := World.putObj_heap_same (by omega)
      have hk2 := (World.putObj_heap_other (w := Wa) (o := .loop { rec_ .ready with state := .busy }) (show w.heap.size ≠ w.heap.size + 1 by omega)).trans h3a
      refine wpIn_mono (hgo _ (grownBy_putObj' Wa _ _) (by simp)) ?_
      rintro e a3 W3 hp3
      cases e with
      | normal =>
        obtain ⟨hi3, hk3⟩ := hp3
        have hl3 := hk3.b.trans hl2
        have hd3 := hk3.a.trans hk2
        have hz3 : w.heap.size + 2 ≤ W3.heap.size := Nat.le_trans (by simp; omega) hk3.size
        refine ⟨_, _, run_endRound none hl3, rfl, hPost _ _ _ _ hi3 (grownBy_putObj' W3 _ _) (fun r e => by cases e; exact .inr rfl), ⟨World.putObj_heap_same (by omega), (World.putObj_heap_other (by omega)).trans hd3, by simp; omega⟩, ?_⟩
        exact Nat.le_trans h4a (Nat.le_trans (by simp) (Nat.le_trans hk3.size (by simp)))
      | _ => exact hp3.elim
    · rintro e W2 ⟨⟨v, rfl⟩, hi, hl, hk, hz⟩
      exact ⟨none, _, run_endLoop hl (by simp [rec_]), hdone _ (by simp; omega) (hEnd _ _ _ hi (grownBy_putObj' W2 _ _) (fun r e => by cases e; exact .inr rfl)) ((World.putObj_heap_other (by omega)).trans hk)⟩

end Go.Proofs.YtkailfajemeeaaaDoor.Sha

import Derived.Test.YteclpblfleakhaaDoorPkWhenGo

namespace Go.Proofs.YteclpblfleakhaaDoor.Up
open Go.RowKit
set_option linter.unusedVariables false
def GoOnH {α : Type} (P : Program) (body : Code) (n : Nat) (I : List α → World → Prop) (pre : List α) (x : α) (W : World) (a' : Act) (Wa : World) : Prop :=
 W.grownBy Wa none ∧ ∀ V, V.heap.size = Wa.heap.size → (∀ k, k ≠ n + 1 → V.heap[k]? = Wa.heap[k]?) → (∃ r, V.heap[n + 1]? = some (.loop r)) → I pre V →
  body.wpIn (Fence.wide.inRound (n + 1)) 1 P (upPost true fun W' => I (pre ++ [x]) W' ∧ Held n V W') a' V
set_option maxHeartbeats 1000000 in
theorem rangesRoundH {α : Type} {P : Program} {g : Operand} {ps : Array Tmp} {assign body : Code} {Q : Exit → Act → World → Prop} {a : Act} {w : World}
 {gf : Nat} {fst lb : Array Value} (hg : a.eval g = .func (.func gf) fst lb) (eg : ∀ args w, (callFunc gf args).run P w = .ok (.enter gf args) w)
 {encs : α → Array Value} {xs : List α} (hps : ∀ x, (encs x).size = ps.size) (I : List α → World → Prop) (hI : Old w.heap.size I) (h0 : I [] w) (hseq : Runs2 P gf fst lb encs (fun _ => true) xs (w.heap.size + 2) I)
 (hround : ∀ (pre : List α) (x : α) (W : World), (∃ rest, xs = pre ++ x :: rest) → w.heap.size + 2 ≤ W.heap.size → I pre W →
  assign.wpIn (Fence.wide.inRound (w.heap.size + 1)) 1 P (Exit.then (GoOnH P body w.heap.size I pre x W) (fun _ _ _ => False)) { tmps := (ps.zip (encs x)).foldl (fun t (p, v) => t.setIfInBounds p v) a.tmps, defers := [] } W)
 (hdone : ∀ (W : World), w.heap.size + 2 ≤ W.heap.size → I xs W → W.heap[w.heap.size]? = some (.deferred (some [])) → Q .normal { a with defers := { target := .collected w.heap.size, args := #[] } :: a.defers } W) :
 (Code.rangeFunc g ps assign body).wpIn Fence.wide 3 P Q a w := by
 refine wpIn_rangeFunc fun fn hfn => ?_
 let rec_ : LoopState → Loop := fun st => { state := st, pending := none, fn, tmps := a.tmps, params := ps, assign, body, defers := w.heap.size }
 let W1 : World := (w.alloc (.deferred (some []))).alloc (.loop (rec_ .ready))
 have hs1 : W1.heap.size = w.heap.size + 2 := by simp [W1]
 have hL : W1.heap[w.heap.size + 1]? = some (.loop (rec_ .ready)) := by
  have h := World.alloc_heap_new (w.alloc (.deferred (some []))) (.loop (rec_ .ready))
  rwa [World.size_alloc] at h
 have hD : W1.heap[w.heap.size]? = some (.deferred (some [])) := (Below.heap_alloc _ _ _ (by simp)).trans (World.alloc_heap_new w _)
 have hI1 : I [] W1 := hI.new (hI.new h0 _) _
 let J : List α → World → Prop := fun pre W => I pre W ∧ W.heap[w.heap.size + 1]? = some (.loop (rec_ .ready)) ∧ W.heap[w.heap.size]? = some (.deferred (some [])) ∧ w.heap.size + 2 ≤ W.heap.size
 refine ⟨w.heap.size + 1, [{ target := .collected w.heap.size, args := #[] }], W1, { target := .fn (.func gf) lb, args := fst ++ #[.func (.yield (w.heap.size + 1)) #[] #[]] }, W1, gf,
  fst ++ #[.func (.yield (w.heap.size + 1)) #[] #[]] ++ lb, W1, run_enterLoop_outer _ _ _ _ _, ?_, fun _ _ => trivial, by simp [invoke, go_sem, eg], fun _ => by omega, ?_⟩
 · simp only [resolve, hg]
   simp [go_sem]
 · refine (hseq (w.heap.size + 1) J W1 hs1 ⟨hI1, hL, hD, by omega⟩ ?_ (fun s A h => h.1) ?_).mono ?_
   · rintro s A A' row ⟨h1, h2, h3, h4⟩ hgr hr
     have hb : ∀ k, k < w.heap.size + 2 → A'.heap[k]? = A.heap[k]? := fun k hk => hgr.block k (by omega) (fun e => by have := (hr k e.symm).1; omega)
     exact ⟨hI s A A' row h1 hgr (fun r e => ⟨by have := (hr r e).1; omega, (hr r e).2⟩), (hb _ (by omega)).trans h2, (hb _ (by omega)).trans h3, Nat.le_trans h4 hgr.size⟩
   · rintro m pre x W hxr ⟨h1, h2, h3, h4⟩ hgood _
     refine yieldAny (m := 1) m ⟨fn, _, assign, body, run_yield h2 (hps x), roundIn_of_wpIn hfn (wpIn_mono (hround pre x W hxr h4 h1) ?_)⟩
     rintro ex a' Wa hex
     cases ex with
     | normal => ?_
     | _ => exact hex.elim
     obtain ⟨hga, hgo⟩ := hex
     have ka : Kept w.heap.size W Wa := .grown hga (fun r e => by cases e)
     have h2a := (ka.same _ (by omega) (by omega)).trans h2
     have h3a := (ka.same _ (by omega) (by omega)).trans h3
     have h4a := ka.size
     refine ⟨Wa.putObj (w.heap.size + 1) (.loop { rec_ .ready with state := .busy }), run_beginRound h2a rfl, ?_⟩
     have hl2 : (Wa.putObj (w.heap.size + 1) (.loop { rec_ .ready with state := .busy })).heap[w.heap.size + 1]? = some (.loop { rec_ .ready with state := .busy }) := World.putObj_heap_same (by omega)
     have hk2 := (World.putObj_heap_other (w := Wa) (o := .loop { rec_ .ready with state := .busy }) (show w.heap.size ≠ w.heap.size + 1 by omega)).trans h3a
     refine wpIn_mono (hgo (Wa.putObj (w.heap.size + 1) (.loop { rec_ .ready with state := .busy })) (by simp) (fun k hk => World.putObj_heap_other hk) ⟨_, hl2⟩ (hI _ _ _ _ (hI _ _ _ _ h1 hga (fun r e => by cases e)) (grownBy_putObj' Wa _ _) (fun r e => by cases e; exact ⟨by omega, _, h2a, rfl⟩))) ?_
     rintro e a3 W3 hp
     cases e with
     | normal =>
      obtain ⟨-, hi3, hk3⟩ := hp
      have hl3 := hk3.b.trans hl2
      have hd3 := hk3.a.trans hk2
      have hz3 : w.heap.size + 2 ≤ W3.heap.size := Nat.le_trans (by simp; omega) hk3.size
      refine ⟨_, _, run_endRound none hl3, rfl, ⟨hI _ _ _ _ hi3 (grownBy_putObj' W3 _ _) (fun r e => by cases e; exact ⟨by omega, _, hl3, rfl⟩), World.putObj_heap_same (by omega), (World.putObj_heap_other (by omega)).trans hd3, by simp; omega⟩, ?_⟩
      exact Nat.le_trans ka.size (Nat.le_trans (by simp) (Nat.le_trans hk3.size (by simp)))
     | ret => exact Bool.noConfusion hp.1
     | _ => exact hp.elim
   · rintro e W2 ⟨⟨v, rfl⟩, hi, hl, hk, hz⟩
     rw [upTo_all (fun _ _ => rfl)] at hi
     exact ⟨none, _, run_endLoop hl (by simp [rec_]), hdone _ (by simp; omega) (hI _ _ _ _ hi (grownBy_putObj' W2 _ _) (fun r e => by cases e; exact ⟨by omega, _, hl, rfl⟩)) ((World.putObj_heap_other (by omega)).trans hk)⟩
structure Held1 (n : Nat) (W W' : World) : Prop where
 size : W.heap.size ≤ W'.heap.size
 a : W'.heap[n]? = W.heap[n]?
theorem Held1.refl (n : Nat) (W : World) : Held1 n W W := ⟨Nat.le_refl _, rfl⟩
theorem Held1.trans {n : Nat} {X Y Z : World} (h : Held1 n X Y) (k : Held1 n Y Z) : Held1 n X Z := ⟨Nat.le_trans h.size k.size, k.a.trans h.a⟩
theorem Held1.grown {n : Nat} {W W' : World} {row : Option Nat} (h : W.grownBy W' row) (hn : n < W.heap.size) (hr : ∀ r, row = some r → r ≠ n) : Held1 n W W' :=
 ⟨h.size, h.block n hn (fun e => hr n e.symm rfl)⟩
theorem Held1.setCell {n : Nat} (W : World) {b i : Nat} (h1 : b ≠ n) (v : Value) : Held1 n W (W.setCell ⟨b, i, none⟩ v) :=
 ⟨by simp, Below.heap_setCell W _ v n (by simp; omega)⟩
def GoOnN {α : Type} (P : Program) (body : Code) (n : Nat) (I : List α → World → Prop) (pre : List α) (x : α) (W : World) (a' : Act) (Wa : World) : Prop :=
 W.grownBy Wa none ∧ ∀ V, V.heap.size = Wa.heap.size → (∀ k, k ≠ n → V.heap[k]? = Wa.heap[k]?) → I pre V →
  body.wpIn (Fence.wide.inRound n) 1 P (upPost true fun W' => I (pre ++ [x]) W' ∧ Held1 n V W') a' V
set_option maxHeartbeats 1000000 in
theorem rangesRoundN {α : Type} {P : Program} {g : Operand} {ps : Array Tmp} {assign body : Code} {Q : Exit → Act → World → Prop} {a : Act} {w : World} {l₀ m₀ : Nat} (hl₀ : ∃ r₀, w.heap[l₀]? = some (.loop r₀))
 {gf : Nat} {fst lb : Array Value} (hg : a.eval g = .func (.func gf) fst lb) (eg : ∀ args w, (callFunc gf args).run P w = .ok (.enter gf args) w)
 {encs : α → Array Value} {xs : List α} (hps : ∀ x, (encs x).size = ps.size) (I : List α → World → Prop) (hI : Old w.heap.size I) (h0 : I [] w) (hseq : Runs2 P gf fst lb encs (fun _ => true) xs (w.heap.size + 1) I)
 (hround : ∀ (pre : List α) (x : α) (W : World), (∃ rest, xs = pre ++ x :: rest) → w.heap.size + 1 ≤ W.heap.size → I pre W →
  assign.wpIn (Fence.wide.inRound w.heap.size) 1 P (Exit.then (GoOnN P body w.heap.size I pre x W) (fun _ _ _ => False)) { tmps := (ps.zip (encs x)).foldl (fun t (p, v) => t.setIfInBounds p v) a.tmps, defers := [] } W)
 (hdone : ∀ (W : World), w.heap.size + 1 ≤ W.heap.size → I xs W → Q .normal a W) :
 (Code.rangeFunc g ps assign body).wpIn (Fence.wide.inRound l₀) m₀ P Q a w := by
 obtain ⟨r₀, hl₀⟩ := hl₀
 refine wpIn_rangeFunc fun fn hfn => ?_
 let rec_ : LoopState → Loop := fun st => { state := st, pending := none, fn, tmps := a.tmps, params := ps, assign, body, defers := r₀.defers }
 let W1 : World := w.alloc (.loop (rec_ .ready))
 have hs1 : W1.heap.size = w.heap.size + 1 := by simp [W1]
 have hL : W1.heap[w.heap.size]? = some (.loop (rec_ .ready)) := World.alloc_heap_new w _
 have hI1 : I [] W1 := hI.new h0 _
 let J : List α → World → Prop := fun pre W => I pre W ∧ W.heap[w.heap.size]? = some (.loop (rec_ .ready)) ∧ w.heap.size + 1 ≤ W.heap.size
 refine ⟨w.heap.size, [], W1, { target := .fn (.func gf) lb, args := fst ++ #[.func (.yield w.heap.size) #[] #[]] }, W1, gf,
  fst ++ #[.func (.yield w.heap.size) #[] #[]] ++ lb, W1, run_enterLoop_inner hl₀ _ _ _ _ _, ?_, fun _ _ => trivial, by simp [invoke, go_sem, eg], fun h => by simp [Fence.wide, Fence.inRound] at h, ?_⟩
 · simp only [resolve, hg]
   simp [go_sem]
 · refine CallsIn.inRound l₀ (callsIn_wide.2 ((callsIn_wide (n := 2)).1 ((hseq w.heap.size J W1 hs1 ⟨hI1, hL, by omega⟩ ?_ (fun s A h => h.1) ?_).mono ?_)))
   · rintro s A A' row ⟨h1, h2, h4⟩ hgr hr
     have hb : ∀ k, k < w.heap.size + 1 → A'.heap[k]? = A.heap[k]? := fun k hk => hgr.block k (by omega) (fun e => by have := (hr k e.symm).1; omega)
     exact ⟨hI s A A' row h1 hgr (fun r e => ⟨by have := (hr r e).1; omega, (hr r e).2⟩), (hb _ (by omega)).trans h2, Nat.le_trans h4 hgr.size⟩
   · rintro m pre x W hxr ⟨h1, h2, h4⟩ hgood _
     refine yieldAny (m := 1) m ⟨fn, _, assign, body, run_yield h2 (hps x), roundIn_of_wpIn hfn (wpIn_mono (hround pre x W hxr h4 h1) ?_)⟩
     rintro ex a' Wa hex
     cases ex with
     | normal => ?_
     | _ => exact hex.elim
     obtain ⟨hga, hgo⟩ := hex
     have ka : Kept w.heap.size W Wa := .grown hga (fun r e => by cases e)
     have h2a := (ka.same _ (by omega) (by omega)).trans h2
     have h4a := ka.size
     refine ⟨Wa.putObj w.heap.size (.loop { rec_ .ready with state := .busy }), run_beginRound h2a rfl, ?_⟩
     have hl2 : (Wa.putObj w.heap.size (.loop { rec_ .ready with state := .busy })).heap[w.heap.size]? = some (.loop { rec_ .ready with state := .busy }) := World.putObj_heap_same (by omega)
     refine wpIn_mono (hgo (Wa.putObj w.heap.size (.loop { rec_ .ready with state := .busy })) (by simp) (fun k hk => World.putObj_heap_other hk) (hI _ _ _ _ (hI _ _ _ _ h1 hga (fun r e => by cases e)) (grownBy_putObj' Wa _ _) (fun r e => by cases e; exact ⟨by omega, _, h2a, rfl⟩))) ?_
     rintro e a3 W3 hp
     cases e with
     | normal =>
      obtain ⟨-, hi3, hk3⟩ := hp
      have hl3 := hk3.a.trans hl2
      have hz3 : w.heap.size + 1 ≤ W3.heap.size := Nat.le_trans (by simp; omega) hk3.size
      refine ⟨_, _, run_endRound none hl3, rfl, ⟨hI _ _ _ _ hi3 (grownBy_putObj' W3 _ _) (fun r e => by cases e; exact ⟨by omega, _, hl3, rfl⟩), World.putObj_heap_same (by omega), by simp; omega⟩, ?_⟩
      exact Nat.le_trans ka.size (Nat.le_trans (by simp) (Nat.le_trans hk3.size (by simp)))
     | ret => exact Bool.noConfusion hp.1
     | _ => exact hp.elim
   · rintro e W2 ⟨⟨v, rfl⟩, hi, hl, hz⟩
     rw [upTo_all (fun _ _ => rfl)] at hi
     exact ⟨none, _, run_endLoop hl (by simp [rec_]), hdone _ (by simp; omega) (hI _ _ _ _ hi (grownBy_putObj' W2 _ _) (fun r e => by cases e; exact ⟨by omega, _, hl, rfl⟩))⟩
end Go.Proofs.YteclpblfleakhaaDoor.Up
namespace Go.Proofs.YteclpblfleakhaaDoor.Tail
set_option linter.unusedVariables false
theorem wpAnyIn_of_seq {F : Fence} {m : Nat} {P : Program} {md : Region.Mode} {ops : Array Oper} {Q' : Exit → Act → World → Prop} : ∀ (l : List Oper) (k : Nat) (listed : Array Bool) (a : Act) (w : World), (∀ j, l[j]? = ops[k + j]?) →
 Region.seqB md ops l.length k listed = true → wpListIn F m P ops Q' l a w → wpAnyIn F m P md ops Q' l.length listed a w
 | [], _, _, _, _, _, hB, h => ⟨by simpa [Region.seqB] using hB, h⟩
 | o :: l, k, listed, a, w, hl, hB, h => by
  have h0 : ops[k]? = some o := by simpa using (hl 0).symm
  simp only [List.length_cons, Region.seqB, Bool.and_eq_true, decide_eq_true_eq] at hB
  refine ⟨fun h1 => (by rw [hB.1] at h1; cases h1), fun i hi => ?_⟩
  rw [hB.1] at hi
  have hik : i = k := by simpa using hi
  subst hik
  have hw : wpOpIn F m P ops Q' i (wpListIn F m P ops Q' l) a w := by unfold wpOpIn; simp only [h0]; exact h
  exact wpOpIn_mono (fun a' w' h' => wpAnyIn_of_seq l (i + 1) _ a' w' (fun j => by have := hl (j + 1); simpa [Nat.add_assoc, Nat.add_comm 1 j] using this) hB.2 h') hw
theorem wpInW_of_quiet {m : Nat} {P : Program} {C : World → Prop} {o : Oper} {a : Act} {K : Act → Prop} {K' : Act → World → Prop} {Q' : Exit → Act → World → Prop} {w : World} (hw : C w) (h : ∀ a w', C w' → K a → K' a w') (hh : o.quiet P a C K) : o.wpIn Fence.wide m P a w K' Q' := by
 obtain ⟨v, h1, h2⟩ := hh
 have h3 := h1 w hw
 unfold Oper.quietAt at h3
 unfold Oper.wpIn
 refine ⟨fun _ _ => trivial, ?_⟩
 show o.uponIn Fence.wide m P a K' Q' ((execOp a.eval o).run P w)
 generalize (execOp a.eval o).run P w = r at *
 cases r with
 | ok x w' =>
  cases x <;> simp only [Oper.quietUpon] at h3 <;> simp only [Oper.uponIn]
  case value u =>
   obtain ⟨e1, e2⟩ := h3
   rw [e1, e2]
   exact h _ _ hw h2
  case skip =>
   obtain ⟨e1, e2⟩ := h3
   rw [e1, ← e2]
   exact h _ _ hw h2
  case enter f args =>
   obtain ⟨e1, hc⟩ := h3
   rw [e1]
   exact ⟨fun e => (by cases e), callsIn_wide.2 (hc.mono fun e w'' ⟨he, hw''⟩ => by subst he; exact h _ _ hw'' h2)⟩
 | halt x w' => simp only [Oper.quietUpon] at h3
theorem wpOpIn_of_qOp {m : Nat} {P : Program} {ops : Array Oper} {C : World → Prop} {i : Nat} {a : Act} {K : Act → Prop} {K' : Act → World → Prop} {Q' : Exit → Act → World → Prop} {w : World} (hC : C w) (h : ∀ a w', C w' → K a → K' a w') (hh : qOp P ops C i K a) : wpOpIn Fence.wide m P ops Q' i K' a w := by
 unfold qOp at hh
 unfold wpOpIn
 split
 · rename_i ho; simp only [ho] at hh; exact h _ _ hC hh
 · rename_i o ho
   simp only [ho] at hh
   split
   · rename_i hw; simp only [hw, if_true] at hh; exact wpInW_of_quiet hC h hh
   · rename_i hw; simp only [hw] at hh; exact ⟨fun _ _ => trivial, h _ _ hC hh⟩
variable {P : Program} {l : List Oper} {n m : Nat} {C : World → Prop}
theorem tailIn_any (hk : Ok l n) {Qa : Act → Prop} {Q : Exit → Act → World → Prop} (hQ : ∀ a w, C w → Qa a → wpListIn Fence.wide m P l.toArray Q (l.drop n) a w) :
 ∀ (fuel : Nat) (lh la : Array Bool) (a : Act) (w : World), C w → Fit l n lh la → lh.toList.count false = fuel → wpAnyQ P .any (l.take n).toArray C Qa fuel lh a → wpAnyIn Fence.wide m P .any l.toArray Q (fuel + (l.length - n)) la a w
 | 0, lh, la, a, w, hw, hf, hc, h => by
  have hall : ∀ j, j < n → la[j]? = some true := by
   intro j hj
   rw [hf.same j hj]
   have hlt : j < lh.size := by rw [hf.size]; exact hj
   rw [Array.getElem?_eq_getElem hlt]
   cases hb : lh[j]
   · exfalso
     have : false ∈ lh.toList := by rw [← hb]; simp
     have := List.count_pos_iff.2 this
     omega
   · rfl
  have hla : la = Array.replicate n true ++ Array.replicate (l.length - n) false := by
   apply Array.ext_getElem?
   intro j
   by_cases h1 : j < n
   · rw [hall j h1, Array.getElem?_append_left (by simpa using h1)]
     simp [h1]
   · rw [Array.getElem?_append_right (by simpa using (by omega : n ≤ j))]
     by_cases h2 : j < l.length
     · rw [hf.rest j (by omega) h2, Array.getElem?_replicate]
       simp
       omega
     · rw [Array.getElem?_eq_none (by rw [hf.sizeAll]; omega), Array.getElem?_eq_none (by simp; omega)]
  subst hla
  have := wpAnyIn_of_seq (F := Fence.wide) (m := m) (P := P) (md := .any) (ops := l.toArray) (Q' := Q) (l.drop n) n (Array.replicate n true ++ Array.replicate (l.length - n) false) a w (fun j => by simp [List.getElem?_drop]) (by simpa using hk.seq) (hQ a w hw h.2)
  simpa using this
 | fuel + 1, lh, la, a, w, hw, hf, hc, h => by
  have hsome : ∃ j, j < n ∧ lh.getD j true = false := by
   have : false ∈ lh.toList := List.count_pos_iff.1 (by omega)
   obtain ⟨j, hj, hb⟩ := List.getElem_of_mem this
   have hj' : j < lh.size := by simpa using hj
   refine ⟨j, by rw [← hf.size]; exact hj', ?_⟩
   simp only [Array.getElem_toList] at hb
   simp [hj', hb]
  have hgd : ∀ j, j < n → la.getD j true = lh.getD j true := fun j hj => by
   have := hf.same j hj
   rw [Array.getD_eq_getD_getElem?, Array.getD_eq_getD_getElem?, this]
  have hgd' : ∀ j, j < n → la.getD j false = lh.getD j false := fun j hj => by
   have := hf.same j hj
   rw [Array.getD_eq_getD_getElem?, Array.getD_eq_getD_getElem?, this]
  have hboth : ∀ j, j < n → lh.getD j false = lh.getD j true := fun j hj => by
   have hlt : j < lh.size := by rw [hf.size]; exact hj
   simp [hlt]
  obtain ⟨j, hj, hpj, hmin⟩ := least (p := fun j => lh.getD j true) n hsome
  have hready : j ∈ Region.ready .any l.toArray la := by
   rw [mem_ready]
   obtain ⟨o, ho⟩ : ∃ o, l[j]? = some o := ⟨l[j]'(by have := hk.lt; omega), List.getElem?_eq_getElem (by have := hk.lt; omega)⟩
   refine ⟨by rw [hgd j hj]; exact hpj, o, by simpa using ho, fun e he _ => ?_⟩
   have h1 := (hk.head j o hj ho).2 e he
   rw [hgd' _ (by omega), hboth _ (by omega)]
   exact hmin _ h1
  have key : (Region.ready .any l.toArray la = [] → Q .normal a w) ∧ ∀ i ∈ Region.ready .any l.toArray la, wpOpIn Fence.wide m P l.toArray Q i (wpAnyIn Fence.wide m P .any l.toArray Q (fuel + (l.length - n)) (la.setIfInBounds i true)) a w := by
   refine ⟨fun h0 => (by rw [h0] at hready; cases hready), fun i hi => ?_⟩
   rw [mem_ready] at hi
   obtain ⟨hi0, o, ho, hall⟩ := hi
   have ho' : l[i]? = some o := by simpa using ho
   have hin : i < n := by
    apply Classical.byContradiction
    intro hni
    by_cases hin0 : i = n
    · subst hin0
      exact stuck hk hf i j hj (by omega) (by rw [hgd j hj]; exact hpj) (mem_ready.2 ⟨hi0, o, ho, hall⟩)
    · obtain ⟨e, he, hb, hon⟩ := hk.tail i o (by omega) ho'
      have h1 := hall e he hb
      have hlt : i < l.length := (List.getElem?_eq_some_iff.1 ho').1
      have h2 := hf.rest e.on (by omega) (by omega)
      rw [Array.getD_eq_getD_getElem?, h2] at h1
      cases h1
   have hih : i ∈ Region.ready .any (l.take n).toArray lh := by
    rw [mem_ready]
    refine ⟨by rw [← hgd i hin]; exact hi0, o, by simp [hin, ho'], fun e he hb => ?_⟩
    have h1 := (hk.head i o hin ho').2 e he
    rw [← hgd' _ (by omega)]
    exact hall e he hb
   refine wpOpIn_of_qOp hw (fun a' w' hw' hK => ?_) (qOp_all hk hin (h.2 i hih))
   refine tailIn_any hk hQ fuel _ _ a' w' hw' (hf.set hin (fun o1 ho1 e he hb => by rw [ho'] at ho1; cases ho1; exact hall e he hb)) ?_ hK
   have hlt : i < lh.toList.length := by simpa [hf.size] using hin
   have hfalse : lh.toList[i] = false := by
    have h2 : lh.getD i true = false := by rw [← hgd i hin]; exact hi0
    have hlt' : i < lh.size := by simpa using hlt
    simpa [hlt'] using h2
   rw [Array.toList_setIfInBounds, List.count_set hlt, hfalse, hc]
   simp
  rw [show fuel + 1 + (l.length - n) = (fuel + (l.length - n)) + 1 by omega]
  exact key
theorem wpIn_region_quiet_tail {id : Nat} {Q : Exit → Act → World → Prop} {a : Act} {w : World} (n : Nat) (hm : P.follows .mixedOrders = true) (hB : Region.lexB .any (l.take n).toArray = true) (hT : okB l n = true) (hC : C { w with drawn := w.drawn + 1 })
 (h : wpQuiet P (l.take n).toArray C (fun a' => ∀ w', C w' → wpListIn Fence.wide m P l.toArray Q (l.drop n) a' w') (l.take n) a) : (Code.region id l.toArray true).wpIn Fence.wide m P Q a w := by
 have hk := ok_of hT
 simp only [Region.lexB, Bool.and_eq_true] at hB
 have hlen : (l.take n).length = n := by simp; have := hk.lt; omega
 have h1 := wpAnyQ_lex (P := P) (C := C) (md := .any) (ops := (l.take n).toArray) hB.1 (l.take n) 0 (Array.replicate n false) a (by simp) (by simpa [hlen] using hB.2) h
 refine wpIn_region_any hm ?_
 have h2 := tailIn_any (m := m) (P := P) (Q := Q) hk (Qa := fun a' => ∀ w', C w' → wpListIn Fence.wide m P l.toArray Q (l.drop n) a' w') (fun a w hw h => h w hw) (l.take n).length (Array.replicate n false) (Array.replicate l.length false) a { w with drawn := w.drawn + 1 } hC
  ⟨by simp, by simp, fun j hj => by have := hk.lt; rw [Array.getElem?_replicate, Array.getElem?_replicate, if_pos hj, if_pos (by omega)], fun j h1 h2 => by simp [h2], fun j o hj ht => by rw [Array.getElem?_replicate] at ht; split at ht <;> cases ht⟩ (by simp [hlen]) h1
 rw [hlen, show n + (l.length - n) = l.length by have := hk.lt; omega] at h2
 simpa using h2
open Go.Sort Go.RowKit in
theorem wpIn_region_below_tail {id : Nat} {Q : Exit → Act → World → Prop} {a : Act} {w : World} (n : Nat) (hm : P.follows .mixedOrders = true) (hB : Region.lexB .any (l.take n).toArray = true) (hT : okB l n = true)
 (h : wpQuiet P (l.take n).toArray (fun w' => ∃ p : Regrown, w' = grow (redrawn w p.d) p.os) (fun a' => ∀ w', (∃ p : Regrown, w' = grow (redrawn w p.d) p.os) → wpListIn Fence.wide m P l.toArray Q (l.drop n) a' w') (l.take n) a) : (Code.region id l.toArray true).wpIn Fence.wide m P Q a w :=
 wpIn_region_quiet_tail (C := fun w' => ∃ p : Regrown, w' = grow (redrawn w p.d) p.os) n hm hB hT ⟨⟨w.drawn + 1, #[]⟩, by rw [grow_empty]; rfl⟩ h
end Go.Proofs.YteclpblfleakhaaDoor.Tail

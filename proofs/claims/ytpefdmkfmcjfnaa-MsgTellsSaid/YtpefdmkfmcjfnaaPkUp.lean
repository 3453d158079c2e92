import Derived.Test.YtpefdmkfmcjfnaaPkFrBegin

namespace Go.Proofs.Ytpefdmkfmcjfnaa.Up
open Go.RowKit
set_option linter.unusedVariables false
structure Kept (B : Nat) (W W' : World) : Prop where
 size : W.heap.size ≤ W'.heap.size
 same : ∀ k, B ≤ k → k < W.heap.size → W'.heap[k]? = W.heap[k]?
theorem Kept.refl (B : Nat) (W : World) : Kept B W W := ⟨Nat.le_refl _, fun _ _ _ => rfl⟩
theorem Kept.trans {B : Nat} {X Y Z : World} (h : Kept B X Y) (k : Kept B Y Z) : Kept B X Z :=
 ⟨Nat.le_trans h.size k.size, fun i hB hi => (k.same i hB (Nat.lt_of_lt_of_le hi h.size)).trans (h.same i hB hi)⟩
theorem Kept.grown {B : Nat} {W W' : World} {row : Option Nat} (h : W.grownBy W' row) (hr : ∀ r, row = some r → r < B) : Kept B W W' :=
 ⟨h.size, fun k hB hk => h.block k hk (fun e => by have := hr k e.symm; omega)⟩
theorem Kept.alloc (B : Nat) (W : World) (o : Obj) : Kept B W (W.alloc o) := .grown (World.grownBy_alloc W o none) (fun r e => by cases e)
theorem Kept.setCell {B : Nat} (W : World) {b i : Nat} (h : b < B) (v : Value) : Kept B W (W.setCell ⟨b, i, none⟩ v) :=
 ⟨by simp, fun k hB hk => Below.heap_setCell W _ v k (by simp; omega)⟩
theorem Kept.mono {B C : Nat} {W W' : World} (h : Kept B W W') (hc : B ≤ C) : Kept C W W' := ⟨h.size, fun k hk hs => h.same k (Nat.le_trans hc hk) hs⟩
def Old {β : Type} (B : Nat) (J : β → World → Prop) : Prop := ∀ s A A' row, J s A → A.grownBy A' row → (∀ r, row = some r → B ≤ r ∧ ∃ o, A.heap[r]? = some o ∧ o.isCells = false) → J s A'
theorem Old.mono {β : Type} {B C : Nat} {J : β → World → Prop} (h : Old B J) (hc : B ≤ C) : Old C J := fun s A A' row hs hg hr => h s A A' row hs hg (fun r e => ⟨Nat.le_trans hc (hr r e).1, (hr r e).2⟩)
theorem Old.new {β : Type} {B : Nat} {J : β → World → Prop} (h : Old B J) {s : β} {A : World} (hs : J s A) (o : Obj) : J s (A.alloc o) := h s A _ none hs (World.grownBy_alloc A o none) (fun r e => by cases e)
theorem roundAny {m m' : Nat} {P : Program} {l : Nat} {f : FuncId} {tmps : Array Value} {assign body : Code} {w : World} {R : Ending → World → Prop} (h : RoundIn Fence.wide m P l f tmps assign body w R) :
 RoundIn Fence.wide m' P l f tmps assign body w R := ⟨h.1, fun c cs _ => h.2 c cs (room_wide _)⟩
theorem yieldAny {m : Nat} (m' : Nat) {P : Program} {l : Nat} {args : Array Value} {W : World} {R : Ending → World → Prop} (h : YieldAt Fence.wide m P l args W R) : YieldAt Fence.wide m' P l args W R := by
 obtain ⟨fn, tmps, assign, body, hy, hR⟩ := h
 exact ⟨fn, tmps, assign, body, hy, roundAny hR⟩
def upTo {α : Type} (good : α → Bool) : List α → List α
 | [] => []
 | x :: xs => x :: if good x then upTo good xs else []
theorem upTo_append {α : Type} {good : α → Bool} : ∀ {pre rest : List α}, (∀ y ∈ pre, good y = true) → upTo good (pre ++ rest) = pre ++ upTo good rest
 | [], _, _ => rfl
 | x :: pre, rest, h => by
  have h1 := h x (List.mem_cons_self ..)
  rw [List.cons_append, upTo, h1, if_pos rfl, upTo_append (fun y hy => h y (List.mem_cons_of_mem _ hy)), List.cons_append]
theorem upTo_good {α : Type} {good : α → Bool} {x : α} (h : good x = true) (xs : List α) : upTo good (x :: xs) = x :: upTo good xs := by rw [upTo, h]; rfl
theorem upTo_all {α : Type} {good : α → Bool} {xs : List α} (h : ∀ y ∈ xs, good y = true) : upTo good xs = xs := by
 have := upTo_append (rest := []) h
 simpa [upTo] using this
theorem good_snoc {α : Type} {good : α → Bool} {pre : List α} {x : α} (h : ∀ y ∈ pre, good y = true) (hx : good x = true) : ∀ y ∈ pre ++ [x], good y = true := by
 intro y hy
 rcases List.mem_append.1 hy with hy | hy
 · exact h y hy
 · obtain rfl := List.mem_singleton.1 hy
   exact hx
theorem upTo_ext {α : Type} {good : α → Bool} : ∀ {xs : List α}, (∀ y ∈ upTo good xs, good y = true) → ∀ y ∈ xs, good y = true
 | [], _, y, hy => by cases hy
 | x :: xs, h, y, hy => by
  have hx := h x (by rw [upTo]; exact List.mem_cons_self ..)
  rcases List.mem_cons.1 hy with rfl | hy
  · exact hx
  · refine upTo_ext (xs := xs) (fun z hz => h z ?_) y hy
    rw [upTo_good hx]
    exact List.mem_cons_of_mem _ hz
def Runs {α : Type} (P : Program) (gf : Nat) (fst lb : Array Value) (encs : α → Array Value) (good : α → Bool) (xs : List α) (B : Nat) (I : List α → World → Prop) : Prop :=
 ∀ (l : Nat) (J : List α → World → Prop) (W : World), W.heap.size = B → J [] W → Old B J → (∀ s A, J s A → I s A) →
  (∀ (m : Nat) pre x A, J pre A → (∀ y ∈ pre, good y = true) → B ≤ A.heap.size → YieldAt Fence.wide m P l (encs x) A fun e A' => e = .returned (.bool (good x)) ∧ J (pre ++ [x]) A' ∧ Kept B A A') →
  CallsIn Fence.wide 2 P gf (fst ++ #[.func (.yield l) #[] #[]] ++ lb) W fun e A' => (∃ v, e = .returned v) ∧ J (upTo good xs) A'
def upPost (good : Bool) (R : World → Prop) : Exit → Act → World → Prop
 | .normal, _, w => good = true ∧ R w
 | .ret, _, w => good = false ∧ R w
 | _, _, _ => False
def GoOn {α : Type} (P : Program) (l : Nat) (body : Code) (n : Nat) (I : List α → World → Prop) (good : α → Bool) (pre : List α) (x : α) (W : World) (a' : Act) (Wa : World) : Prop :=
 W.grownBy Wa none ∧ ∀ V, V.heap.size = Wa.heap.size → (∀ k, k ≠ n + 1 → V.heap[k]? = Wa.heap[k]?) → I pre V →
  body.wpIn (Fence.wide.inRound l) 1 P (upPost (good x) fun W' => I (pre ++ [x]) W' ∧ Kept n V W') a' V
set_option maxHeartbeats 1000000 in
theorem rangesRound {α : Type} {P : Program} {g : Operand} {ps : Array Tmp} {assign body : Code} {Q : Exit → Act → World → Prop} {a : Act} {w : World}
 {gf : Nat} {fst lb : Array Value} (hg : a.eval g = .func (.func gf) fst lb) (eg : ∀ args w, (callFunc gf args).run P w = .ok (.enter gf args) w)
 {encs : α → Array Value} {good : α → Bool} {xs : List α} (hps : ∀ x, (encs x).size = ps.size) (I : List α → World → Prop) (hI : Old w.heap.size I) (h0 : I [] w) (hseq : Runs P gf fst lb encs good xs (w.heap.size + 2) I)
 (hround : ∀ (l : Nat) (pre : List α) (x : α) (W : World), w.heap.size + 2 ≤ W.heap.size → I pre W → (∀ y ∈ pre, good y = true) →
  assign.wpIn (Fence.wide.inRound l) 1 P (Exit.then (GoOn P l body w.heap.size I good pre x W) (fun _ _ _ => False)) { tmps := (ps.zip (encs x)).foldl (fun t (p, v) => t.setIfInBounds p v) a.tmps, defers := [] } W)
 (hdone : ∀ (W : World), w.heap.size + 2 ≤ W.heap.size → I xs W → (∀ y ∈ xs, good y = true) → W.heap[w.heap.size]? = some (.deferred (some [])) → Q .normal { a with defers := { target := .collected w.heap.size, args := #[] } :: a.defers } W)
 (hstop : ∀ (W : World), w.heap.size + 2 ≤ W.heap.size → I (upTo good xs) W → ¬ (∀ y ∈ xs, good y = true) → W.heap[w.heap.size]? = some (.deferred (some [])) → Code.ret.wpIn Fence.wide 3 P Q { a with defers := { target := .collected w.heap.size, args := #[] } :: a.defers } W) :
 (Code.rangeFunc g ps assign body).wpIn Fence.wide 3 P Q a w := by
 refine wpIn_rangeFunc fun fn hfn => ?_
 let rec_ : LoopState → Option Code → Loop := fun st pe => { state := st, pending := pe, fn, tmps := a.tmps, params := ps, assign, body, defers := w.heap.size }
 let W1 : World := (w.alloc (.deferred (some []))).alloc (.loop (rec_ .ready none))
 have hs1 : W1.heap.size = w.heap.size + 2 := by simp [W1]
 have hL : W1.heap[w.heap.size + 1]? = some (.loop (rec_ .ready none)) := by
  have h := World.alloc_heap_new (w.alloc (.deferred (some []))) (.loop (rec_ .ready none))
  rwa [World.size_alloc] at h
 have hD : W1.heap[w.heap.size]? = some (.deferred (some [])) := (Below.heap_alloc _ _ _ (by simp)).trans (World.alloc_heap_new w _)
 have hI1 : I [] W1 := hI.new (hI.new h0 _) _
 let st : List α → LoopState × Option Code := fun pre => if ∀ y ∈ pre, good y = true then (.ready, none) else (.done, some .ret)
 let J : List α → World → Prop := fun pre W => I pre W ∧ W.heap[w.heap.size + 1]? = some (.loop (rec_ (st pre).1 (st pre).2)) ∧ W.heap[w.heap.size]? = some (.deferred (some [])) ∧ w.heap.size + 2 ≤ W.heap.size
 have hst0 : st [] = (.ready, none) := if_pos (fun y hy => by cases hy)
 have hst1 : ∀ {pre : List α}, (∀ y ∈ pre, good y = true) → st pre = (.ready, none) := fun h => if_pos h
 have hst2 : ∀ {pre : List α} {x : α}, good x = false → st (pre ++ [x]) = (.done, some .ret) := fun {pre x} h => if_neg (fun hh => by have := hh x (by simp); rw [h] at this; cases this)
 refine ⟨w.heap.size + 1, [{ target := .collected w.heap.size, args := #[] }], W1, { target := .fn (.func gf) lb, args := fst ++ #[.func (.yield (w.heap.size + 1)) #[] #[]] }, W1, gf,
  fst ++ #[.func (.yield (w.heap.size + 1)) #[] #[]] ++ lb, W1, run_enterLoop_outer _ _ _ _ _, ?_, fun _ _ => trivial, by simp [invoke, go_sem, eg], fun _ => by omega, ?_⟩
 · simp only [resolve, hg]
   simp [go_sem]
 · refine (hseq (w.heap.size + 1) J W1 hs1 ⟨hI1, by rw [hst0]; exact hL, hD, by omega⟩ ?_ (fun s A h => h.1) ?_).mono ?_
   · rintro s A A' row ⟨h1, h2, h3, h4⟩ hgr hr
     have hb : ∀ k, k < w.heap.size + 2 → A'.heap[k]? = A.heap[k]? := fun k hk => hgr.block k (by omega) (fun e => by have := (hr k e.symm).1; omega)
     exact ⟨hI s A A' row h1 hgr (fun r e => ⟨by have := (hr r e).1; omega, (hr r e).2⟩), (hb _ (by omega)).trans h2, (hb _ (by omega)).trans h3, Nat.le_trans h4 hgr.size⟩
   · rintro m pre x W ⟨h1, h2, h3, h4⟩ hgood _
     rw [hst1 hgood] at h2
     refine yieldAny (m := 1) m ⟨fn, _, assign, body, run_yield h2 (hps x), roundIn_of_wpIn hfn (wpIn_mono (hround _ pre x W h4 h1 hgood) ?_)⟩
     rintro ex a' Wa hex
     cases ex with
     | normal => ?_
     | _ => exact hex.elim
     obtain ⟨hga, hgo⟩ := hex
     have ka : Kept w.heap.size W Wa := .grown hga (fun r e => by cases e)
     have h2a := (ka.same _ (by omega) (by omega)).trans h2
     have h3a := (ka.same _ (by omega) (by omega)).trans h3
     have h4a := ka.size
     refine ⟨Wa.putObj (w.heap.size + 1) (.loop { rec_ .ready none with state := .busy }), run_beginRound h2a rfl, ?_⟩
     have hl2 : (Wa.putObj (w.heap.size + 1) (.loop { rec_ .ready none with state := .busy })).heap[w.heap.size + 1]? = some (.loop { rec_ .ready none with state := .busy }) := World.putObj_heap_same (by omega)
     have hk2 := (World.putObj_heap_other (w := Wa) (o := .loop { rec_ .ready none with state := .busy }) (show w.heap.size ≠ w.heap.size + 1 by omega)).trans h3a
     refine wpIn_mono (hgo (Wa.putObj (w.heap.size + 1) (.loop { rec_ .ready none with state := .busy })) (by simp) (fun k hk => World.putObj_heap_other hk) (hI _ _ _ _ (hI _ _ _ _ h1 hga (fun r e => by cases e)) (grownBy_putObj' Wa _ _) (fun r e => by cases e; exact ⟨by omega, _, h2a, rfl⟩))) ?_
     have fin : ∀ (c : Option Code) (W3 : World), I (pre ++ [x]) W3 → Kept w.heap.size (Wa.putObj (w.heap.size + 1) (.loop { rec_ .ready none with state := .busy })) W3 → st (pre ++ [x]) = (if c.isNone then .ready else .done, c) →
      (Instr.endRound (w.heap.size + 1) c).run P W3 = .ok (.bool c.isNone) (W3.putObj (w.heap.size + 1) (.loop (rec_ (if c.isNone then .ready else .done) c))) ∧
      J (pre ++ [x]) (W3.putObj (w.heap.size + 1) (.loop (rec_ (if c.isNone then .ready else .done) c))) ∧ Kept (w.heap.size + 2) W (W3.putObj (w.heap.size + 1) (.loop (rec_ (if c.isNone then .ready else .done) c))) := fun c W3 hi3 hk3 hs => by
      have hl3 := (hk3.same _ (by omega) (by simp; omega)).trans hl2
      have hd3 := (hk3.same _ (Nat.le_refl _) (by simp; omega)).trans hk2
      have hz3 : w.heap.size + 2 ≤ W3.heap.size := Nat.le_trans (by simp; omega) hk3.size
      refine ⟨run_endRound c hl3, ⟨hI _ _ _ _ hi3 (grownBy_putObj' W3 _ _) (fun r e => by cases e; exact ⟨by omega, _, hl3, rfl⟩), by rw [hs]; exact World.putObj_heap_same (by omega), (World.putObj_heap_other (by omega)).trans hd3, by simp; omega⟩, ?_⟩
      refine ⟨Nat.le_trans ka.size (Nat.le_trans (by simp) (Nat.le_trans hk3.size (by simp))), fun k hk1 hk4 => ?_⟩
      have e1 := World.putObj_heap_other (w := Wa) (o := .loop { rec_ .ready none with state := .busy }) (show k ≠ w.heap.size + 1 by omega)
      exact (World.putObj_heap_other (by omega)).trans ((hk3.same k (by omega) (by simp; have := ka.size; omega)).trans (e1.trans (ka.same k (by omega) hk4)))
     rintro e a3 W3 hp
     cases e with
     | normal =>
      obtain ⟨hgx, hi3, hk3⟩ := hp
      obtain ⟨hr, hj, hk⟩ := fin none W3 hi3 hk3 (hst1 (good_snoc hgood hgx))
      exact ⟨_, _, hr, by rw [hgx]; rfl, hj, hk⟩
     | ret =>
      obtain ⟨hgx, hi3, hk3⟩ := hp
      obtain ⟨hr, hj, hk⟩ := fin (some .ret) W3 hi3 hk3 (hst2 hgx)
      exact ⟨_, _, hr, by rw [hgx]; rfl, hj, hk⟩
     | _ => exact hp.elim
   · rintro e W2 ⟨⟨v, rfl⟩, hi, hl, hk, hz⟩
     by_cases hall : ∀ y ∈ xs, good y = true
     · rw [upTo_all hall] at hi hl
       rw [hst1 hall] at hl
       exact ⟨none, _, run_endLoop hl (by simp [rec_]), hdone _ (by simp; omega) (hI _ _ _ _ hi (grownBy_putObj' W2 _ _) (fun r e => by cases e; exact ⟨by omega, _, hl, rfl⟩)) hall ((World.putObj_heap_other (by omega)).trans hk)⟩
     · have hs : st (upTo good xs) = (.done, some .ret) := if_neg (fun hh => hall (upTo_ext hh))
       rw [hs] at hl
       exact ⟨some .ret, _, run_endLoop hl (by simp [rec_]), hstop _ (by simp; omega) (hI _ _ _ _ hi (grownBy_putObj' W2 _ _) (fun r e => by cases e; exact ⟨by omega, _, hl, rfl⟩)) hall ((World.putObj_heap_other (by omega)).trans hk)⟩
def Marks (ds : List Nat) (W : World) : Prop := ∀ d ∈ ds, W.heap[d]? = some (.deferred (some []))
def mark (d : Nat) : Deferred := { target := .collected d, args := #[] }
theorem Marks.inside {ds : List Nat} {W : World} (h : Marks ds W) {d : Nat} (hd : d ∈ ds) : d < W.heap.size := (Array.getElem?_eq_some_iff.1 (h d hd)).1
theorem Marks.same {ds : List Nat} {W W' : World} (h : Marks ds W) (hs : ∀ d ∈ ds, W'.heap[d]? = W.heap[d]?) : Marks ds W' := fun d hd => (hs d hd).trans (h d hd)
theorem Marks.old {ds : List Nat} {W A : World} {row : Option Nat} (h : Marks ds W) (hg : W.grownBy A row) {n : Nat} (hr : ∀ r, row = some r → n ≤ r) (hn : ∀ d ∈ ds, d < n) : Marks ds A :=
 h.same fun d hd => hg.block d (h.inside hd) (fun e => by have := hr d e.symm; have := hn d hd; omega)
theorem Marks.cons {ds : List Nat} {d : Nat} {W : World} (h : Marks ds W) (hd : W.heap[d]? = some (.deferred (some []))) : Marks (d :: ds) W := by
 intro e he
 rcases List.mem_cons.1 he with rfl | he
 · exact hd
 · exact h e he
end Go.Proofs.Ytpefdmkfmcjfnaa.Up
namespace Go.Proofs.Ytpefdmkfmcjfnaa.Fr
open Go.RowKit Go.Sort Go.Shelf Go.Proofs.Ytpefdmkfmcjfnaa.Mem Go.Proofs.Ytpefdmkfmcjfnaa.Route Go.Proofs.Ytpefdmkfmcjfnaa.Oct
set_option linter.unusedVariables false
attribute [local go_sem] Oper.semAt_some
def encF (f : Fd) : Array Value := #[.agg #[.int .i64 (f.k : Int), .string (str f.body), .string (str f.rest)]]
def fdC : Option Fd → List Value
 | some f => [.int .i64 (f.k : Int), .string (str f.body), .string (str f.rest)]
 | none => [.int .i64 0, .string ⟨#[]⟩, .string ⟨#[]⟩]
theorem grown_of {A A' : World} (h : Below A.heap.size A A') : A.grownBy A' none := ⟨h.os, h.tape, h.output, h.size, fun k hk _ => h.block k hk⟩
theorem upOld {β : Type} {B : Nat} {J : β → World → Prop} (hJ : Up.Old B J) {s : β} {A A' : World} (hs : J s A) (h : Below A.heap.size A A') : J s A' := hJ s A A' none hs (grown_of h) (fun r e => by cases e)
theorem cell0 {w : World} {g : Nat} {t : TypeId} {x y z : Value} (h : AtL w g t [x, y, z]) : w.cell? ⟨g, 0, none⟩ = some x := h.get rfl
theorem cell1 {w : World} {g : Nat} {t : TypeId} {x y z : Value} (h : AtL w g t [x, y, z]) : w.cell? ⟨g, 1, none⟩ = some y := h.get rfl
theorem cell2 {w : World} {g : Nat} {t : TypeId} {x y z : Value} (h : AtL w g t [x, y, z]) : w.cell? ⟨g, 2, none⟩ = some z := h.get rfl
theorem fd_open (F : Option Fd) : ∃ (n : Int) (a b : ByteArray), fdV F = .agg #[.int .i64 n, .string a, .string b] ∧ fdC F = [.int .i64 n, .string a, .string b] := by
 cases F with
 | none => exact ⟨_, _, _, rfl, rfl⟩
 | some f => exact ⟨_, _, _, rfl, rfl⟩
set_option maxRecDepth 100000 in
set_option maxHeartbeats 4000000 in
theorem frames_runs (s : Oct.Bs) (hs : s.length ≤ 9223372036854775807) (Bs B : Nat) (I : List Fd → World → Prop) (hI : ∀ p W, I p W → At W Bs 9 #[.string (str s)]) :
 Up.Runs Try.prog 70 #[] #[.pointer (some ⟨Bs, 0, none⟩)] encF (fun _ => false) (front s).toList B I := by
 intro lp J W hWB h0 hJ hJI hY
 refine callsIn_of_wp Try.func70 rfl trivial ?_ rfl
 simp only [Try.ntmps70, List.size_toArray, List.length_cons, List.length_nil, Nat.reduceAdd, Nat.reduceSub, Array.replicate_succ, Array.replicate_zero, List.push_toArray, List.append_toArray, List.nil_append, List.cons_append]
 have hA := hI _ _ (hJI _ _ h0)
 have a0 := hA.cell 0
 simp at a0
 have hY' := Lib.hid hY
 have hJ' := Lib.hid hJ
 clear hY hI hJI hJ
 gi_wp2_with fail
 refine ⟨trivial, ?_⟩
 obtain ⟨xn, ya, zb, hx, hx2⟩ := fd_open (front s)
 have hbeg := begin_any s hs W
 rw [hx] at hbeg
 refine (callsIn_wide.2 hbeg).mono ?_
 clear hbeg
 rintro e W1 ⟨rfl, hb1⟩
 obtain ⟨Bf, hBf⟩ : ∃ Bf, W1.heap.size = Bf := ⟨_, rfl⟩
 have hfB : B ≤ Bf := by have := hb1.size; omega
 have hF : AtL (W1.alloc (.cells #[.int .i64 xn, .string ya, .string zb] 138)) Bf 138 (fdC (front s)) := by rw [hx2, ← hBf]; exact AtL.new W1 138 [.int .i64 xn, .string ya, .string zb]
 have hj1 := upOld hJ'.out (upOld hJ'.out h0 hb1) ((Below.refl _ _).alloc (Nat.le_refl _) (.cells #[.int .i64 xn, .string ya, .string zb] 138))
 replace hF := Lib.hid hF
 replace hj1 := Lib.hid hj1
 replace hx2 := Lib.hid hx2
 replace hx := Lib.hid hx
 clear h0 hA
 gi_wp2_with fail
 gi_loopw [4] (fun c wr => c = .bool (front s).isSome ∧ Hid (AtL wr Bf 138 (fdC (front s))) ∧ Hid (J [] wr))
  (fun c wr => 0)
 case atStart => exact ⟨rfl, hF, hj1⟩
 case round =>
  clear hF hj1 hx hx2
  obtain ⟨rfl, hF, hj⟩ := hrel
  obtain ⟨F, hFe⟩ : ∃ F, front s = F := ⟨_, rfl⟩
  rw [hFe] at hF ⊢
  cases F with
  | none =>
   have hfin := Lib.hid (show J (Up.upTo (fun _ => false) (front s).toList) wr by rw [hFe]; exact hj.out)
   clear hF hj hFe
   simp only [Option.isSome_none]
   gi_wp2_with fail
   refine ⟨fun _ h => (by cases h), ?_⟩
   gi_wp2
   go_end0
   exact ⟨⟨_, rfl⟩, hfin.out⟩
  | some f =>
   have c0 := cell0 hF.out
   have c1 := cell1 hF.out
   have c2 := cell2 hF.out
   have hwr : B ≤ wr.heap.size := by have := At.inside hF.out; omega
   obtain ⟨fn, tmps, assign, body, hyy, hR⟩ := hY'.out 1 _ f wr hj.out (fun y hy => by cases hy) hwr
   dsimp only [encF] at hyy
   simp only [Option.isSome_some]
   have hFe' := Lib.hid hFe
   clear hFe
   gi_wp2
   refine hR.mono ?_
   clear hR hyy
   rintro e W3 ⟨rfl, hJ3, hk3⟩
   have hfin := Lib.hid (show J (Up.upTo (fun _ => false) (front s).toList) W3 by rw [hFe'.out]; exact hJ3)
   clear c0 c1 c2 hF hj hk3 hJ3
   gi_wp2
   go_end0
   exact ⟨⟨_, rfl⟩, hfin.out⟩
end Go.Proofs.Ytpefdmkfmcjfnaa.Fr
namespace Go.Proofs.Ytpefdmkfmcjfnaa.Sched
open Go.Proofs.Ytpefdmkfmcjfnaa.Tail (Fit least)
set_option linter.unusedVariables false
def noDefer (o : Oper) : Bool := match o.op with | .defer _ => false | _ => true
theorem noDefer_ne {o : Oper} (h : noDefer o = true) : ∀ c, o.op ≠ .defer c := by
 intro c e
 rw [noDefer, e] at h
 cases h
theorem rowsIn_of {l n : Nat} {P : Program} {row : String} {args : Array Value} {w : World} {R : Value → World → Prop} (h : Rows P row args w R) : RowsIn (Fence.wide.inRound l) n P row args w R :=
 fun c cs _ => let ⟨v, w', r, s⟩ := h c cs; ⟨v, w', r, stepsIn_wide.2 s⟩
theorem uponIn_of {l n : Nat} {P : Program} {o : Oper} {a : Act} {K : Act → World → Prop} {Q : Exit → Act → World → Prop} : ∀ {r : Result Next}, o.upon P a K Q r → o.uponIn (Fence.wide.inRound l) n P a K Q r := by
 intro r h
 cases r with
 | ok x w' =>
  cases x with
  | value v => exact h
  | skip => exact h
  | defer d => exact h
  | enter f args => exact ⟨fun e => (by cases e), callsIn_wide.2 h⟩
  | row row args => exact ⟨fun e => (by cases e), rowsIn_of h⟩
  | round => exact h.elim
  | _ => exact h.elim
 | halt x w' => cases x <;> exact h
theorem wpOpIn_of {l n : Nat} {P : Program} {ops : Array Oper} {Q : Exit → Act → World → Prop} (hd : ∀ o ∈ ops, noDefer o = true) (hQ : ¬ LetsOut Q) {i : Nat} {K : Act → World → Prop} {a : Act} {w : World} (h : wpOp P ops Q i K a w) : wpOpIn (Fence.wide.inRound l) n P ops Q i K a w := by
 unfold wpOp at h
 unfold wpOpIn
 cases ho : ops[i]? with
 | none => rw [ho] at h; exact h
 | some o =>
  rw [ho] at h
  have hm : o ∈ ops := Array.mem_of_getElem? ho
  by_cases hw : Region.wanted o (yielded ops a.tmps) = true
  · simp only [hw, if_true] at h ⊢
    refine ⟨fun _ _ => trivial, ?_⟩
    rcases h with h | ⟨_, h⟩
    · have e : o.semAt (Fence.wide.inRound l).round a.eval = execOp a.eval o := Oper.semAt_some l _ _ (noDefer_ne (hd o hm))
      rw [e]
      exact uponIn_of h
    · exact absurd h hQ
  · simp only [hw, if_false, Bool.false_eq_true] at h ⊢
    exact ⟨fun _ _ => trivial, h⟩
theorem wpAnyIn_of {l n : Nat} {P : Program} {ops : Array Oper} {Q : Exit → Act → World → Prop} (hd : ∀ o ∈ ops, noDefer o = true) (hQ : ¬ LetsOut Q) : ∀ (fuel : Nat) (listed : Array Bool) (a : Act) (w : World), wpAny P .any ops Q fuel listed a w → wpAnyIn (Fence.wide.inRound l) n P .any ops Q fuel listed a w
 | 0, _, _, _, h => h
 | fuel + 1, listed, a, w, h => ⟨h.1, fun i hi => wpOpIn_of hd hQ (wpOp_mono (fun a' w' h' => wpAnyIn_of hd hQ fuel _ a' w' h') (h.2 i hi))⟩
variable {P : Program} {l : List Oper} {n : Nat} {Q : Exit → Act → World → Prop}
theorem wpIn_region_sched {lr m : Nat} {id : Nat} {a : Act} {w : World} (n : Nat) (Ext : World → World → Prop) (V : Nat → Value → World → Prop) (Z : (Nat → Bool) → (Nat → Value) → World → Prop)
 (hm : P.follows .mixedOrders = true) (hT : okB l n = true) (hA : apartB (l.take n) = true) (hd : (l.all noDefer) = true) (hO : ¬ LetsOut Q)
 (htr : ∀ {a b c}, Ext a b → Ext b c → Ext a c) (hV : ∀ {k v w w'}, V k v w → Ext w w' → V k v w') (h0 : Ext w { w with drawn := w.drawn + 1 }) (hZ : ∀ ys, Z (fun _ => false) ys { w with drawn := w.drawn + 1 })
 (hS : Steps P l n Q Ext V Z w a 0 (l.take n))
 (hQ : ∀ ys w', Ext w w' → (∀ i, i < n → V i (ys i) w') → (∃ done : Nat → Bool, (∀ i, i < n → done i = true) ∧ Z done ys w') → wpList P l.toArray Q (l.drop n) (fill 0 (l.take n) ys a) w') : (Code.region id l.toArray true).wpIn (Fence.wide.inRound lr) m P Q a w := by
 have hk := ok_of hT
 refine wpIn_region_any hm (wpAnyIn_of (fun o ho => List.all_eq_true.1 hd o (by simpa using ho)) hO _ _ _ _ ?_)
 obtain ⟨ys, hy⟩ := fill_self (l.take n) 0 a
 have hd : ∀ i, (Array.replicate n false).getD i false = false := fun i => by rw [Array.getD_eq_getD_getElem?, Array.getElem?_replicate]; split <;> rfl
 have h2 := sched_any (P := P) (Q := Q) (w0 := w) (Ext := Ext) (V := V) (Z := Z) (a0 := a) hk hA htr hV hS hQ n (Array.replicate n false) (Array.replicate l.length false) ys { w with drawn := w.drawn + 1 } h0
  (fun i _ h => by rw [hd] at h; cases h) (by rw [show (fun i => (Array.replicate n false).getD i false) = fun _ => false from funext hd]; exact hZ ys)
  ⟨by simp, by simp, fun j hj => by have := hk.lt; rw [Array.getElem?_replicate, Array.getElem?_replicate, if_pos hj, if_pos (by omega)], fun j h1 h2 => by simp [h2], fun j o hj ht => by rw [Array.getElem?_replicate] at ht; split at ht <;> cases ht⟩ (by simp)
 rw [hy, show n + (l.length - n) = l.length by have := hk.lt; omega] at h2
 simpa using h2
end Go.Proofs.Ytpefdmkfmcjfnaa.Sched

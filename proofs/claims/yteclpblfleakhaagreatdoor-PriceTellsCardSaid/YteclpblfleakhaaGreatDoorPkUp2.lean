import Derived.Test.YteclpblfleakhaaGreatDoorPkSched
import Derived.Test.YteclpblfleakhaaGreatDoorPkOrderChk

namespace Go.Proofs.YteclpblfleakhaaGreatDoor.Up
open Go.RowKit
set_option linter.unusedVariables false
structure Held (n : Nat) (W W' : World) : Prop where
 size : W.heap.size ≤ W'.heap.size
 a : W'.heap[n]? = W.heap[n]?
 b : W'.heap[n + 1]? = W.heap[n + 1]?
theorem Held.refl (n : Nat) (W : World) : Held n W W := ⟨Nat.le_refl _, rfl, rfl⟩
theorem Held.trans {n : Nat} {X Y Z : World} (h : Held n X Y) (k : Held n Y Z) : Held n X Z := ⟨Nat.le_trans h.size k.size, k.a.trans h.a, k.b.trans h.b⟩
theorem Held.grown {n : Nat} {W W' : World} {row : Option Nat} (h : W.grownBy W' row) (hn : n + 1 < W.heap.size) (hr : ∀ r, row = some r → r ≠ n ∧ r ≠ n + 1) : Held n W W' :=
 ⟨h.size, h.block n (by omega) (fun e => (hr n e.symm).1 rfl), h.block (n + 1) hn (fun e => (hr (n + 1) e.symm).2 rfl)⟩
theorem Held.alloc {n : Nat} (W : World) (o : Obj) (hn : n + 1 < W.heap.size) : Held n W (W.alloc o) := .grown (World.grownBy_alloc W o none) hn (fun r e => by cases e)
theorem Held.setCell {n : Nat} (W : World) {b i : Nat} (h1 : b ≠ n) (h2 : b ≠ n + 1) (v : Value) : Held n W (W.setCell ⟨b, i, none⟩ v) :=
 ⟨by simp, Below.heap_setCell W _ v n (by simp; omega), Below.heap_setCell W _ v (n + 1) (by simp; omega)⟩
def Runs2 {α : Type} (P : Program) (gf : Nat) (fst lb : Array Value) (encs : α → Array Value) (good : α → Bool) (xs : List α) (B : Nat) (I : List α → World → Prop) : Prop :=
 ∀ (l : Nat) (J : List α → World → Prop) (W : World), W.heap.size = B → J [] W → Old B J → (∀ s A, J s A → I s A) →
  (∀ (m : Nat) pre x A, (∃ rest, xs = pre ++ x :: rest) → J pre A → (∀ y ∈ pre, good y = true) → B ≤ A.heap.size → YieldAt Fence.wide m P l (encs x) A fun e A' => e = .returned (.bool (good x)) ∧ J (pre ++ [x]) A' ∧ A.heap.size ≤ A'.heap.size) →
  CallsIn Fence.wide 2 P gf (fst ++ #[.func (.yield l) #[] #[]] ++ lb) W fun e A' => (∃ v, e = .returned v) ∧ J (upTo good xs) A'
def GoOn2 {α : Type} (P : Program) (l : Nat) (body : Code) (n : Nat) (I : List α → World → Prop) (good : α → Bool) (pre : List α) (x : α) (W : World) (a' : Act) (Wa : World) : Prop :=
 W.grownBy Wa none ∧ ∀ V, V.heap.size = Wa.heap.size → (∀ k, k ≠ n + 1 → V.heap[k]? = Wa.heap[k]?) → I pre V →
  body.wpIn (Fence.wide.inRound l) 1 P (upPost (good x) fun W' => I (pre ++ [x]) W' ∧ Held n V W') a' V
set_option maxHeartbeats 1000000 in
theorem rangesRound2 {α : Type} {P : Program} {g : Operand} {ps : Array Tmp} {assign body : Code} {Q : Exit → Act → World → Prop} {a : Act} {w : World}
 {gf : Nat} {fst lb : Array Value} (hg : a.eval g = .func (.func gf) fst lb) (eg : ∀ args w, (callFunc gf args).run P w = .ok (.enter gf args) w)
 {encs : α → Array Value} {good : α → Bool} {xs : List α} (hps : ∀ x, (encs x).size = ps.size) (I : List α → World → Prop) (hI : Old w.heap.size I) (h0 : I [] w) (hseq : Runs2 P gf fst lb encs good xs (w.heap.size + 2) I)
 (hround : ∀ (l : Nat) (pre : List α) (x : α) (W : World), (∃ rest, xs = pre ++ x :: rest) → w.heap.size + 2 ≤ W.heap.size → I pre W → (∀ y ∈ pre, good y = true) →
  assign.wpIn (Fence.wide.inRound l) 1 P (Exit.then (GoOn2 P l body w.heap.size I good pre x W) (fun _ _ _ => False)) { tmps := (ps.zip (encs x)).foldl (fun t (p, v) => t.setIfInBounds p v) a.tmps, defers := [] } W)
 (hdone : ∀ (W : World), w.heap.size + 2 ≤ W.heap.size → I xs W → (∀ y ∈ xs, good y = true) → W.heap[w.heap.size]? = some (.deferred (some [])) → Q .normal { a with defers := { target := .collected w.heap.size, args := #[] } :: a.defers } W)
 (hstop : ∀ (W : World), w.heap.size + 2 ≤ W.heap.size → I (upTo good xs) W → ¬ (∀ y ∈ xs, good y = true) → W.heap[w.heap.size]? = some (.deferred (some [])) → Code.ret.wpIn Fence.wide 3 P Q { a with defers := { target := .collected w.heap.size, args := #[] } :: a.defers } W) :
 (Code.rangeFunc g ps assign body).wpIn Fence.wide 3 P Q a w := by
 refine wpIn_rangeFunc fun fn hfn => ?_
 let rec_ : LoopState → Option Code → Loop := fun st pe => { state := st, pending := pe, fn, tmps := a.tmps, params := ps, assign, body, defers := w.heap.size }
 let W1 : World := (w.alloc (.deferred (some []))).alloc (.loop (rec_ .ready none))
 have hs1 : W1.heap.size = w.heap.size + 2 := by simp [W1]
 have hL : W1.heap[w.heap.size + 1]? = some (.loop (rec_ .ready none)) := by
  have h := World.alloc_heap_new (w.alloc (.deferred (some []))) (.loop (rec_ .ready none))
  rwa [World.size_alloc] at h
 have hD : W1.heap[w.heap.size]? = some (.deferred (some [])) := (Below.heap_alloc _ _ _ (by simp)).trans (World.alloc_heap_new w _)
 have hI1 : I [] W1 := hI.new (hI.new h0 _) _
 let st : List α → LoopState × Option Code := fun pre => if ∀ y ∈ pre, good y = true then (.ready, none) else (.done, some .ret)
 let J : List α → World → Prop := fun pre W => I pre W ∧ W.heap[w.heap.size + 1]? = some (.loop (rec_ (st pre).1 (st pre).2)) ∧ W.heap[w.heap.size]? = some (.deferred (some [])) ∧ w.heap.size + 2 ≤ W.heap.size
 have hst0 : st [] = (.ready, none) := if_pos (fun y hy => by cases hy)
 have hst1 : ∀ {pre : List α}, (∀ y ∈ pre, good y = true) → st pre = (.ready, none) := fun h => if_pos h
 have hst2 : ∀ {pre : List α} {x : α}, good x = false → st (pre ++ [x]) = (.done, some .ret) := fun {pre x} h => if_neg (fun hh => by have := hh x (by simp); rw [h] at this; cases this)
 refine ⟨w.heap.size + 1, [{ target := .collected w.heap.size, args := #[] }], W1, { target := .fn (.func gf) lb, args := fst ++ #[.func (.yield (w.heap.size + 1)) #[] #[]] }, W1, gf,
  fst ++ #[.func (.yield (w.heap.size + 1)) #[] #[]] ++ lb, W1, run_enterLoop_outer _ _ _ _ _, ?_, fun _ _ => trivial, by simp [invoke, go_sem, eg], fun _ => by omega, ?_⟩
 · simp only [resolve, hg]
   simp [go_sem]
 · refine (hseq (w.heap.size + 1) J W1 hs1 ⟨hI1, by rw [hst0]; exact hL, hD, by omega⟩ ?_ (fun s A h => h.1) ?_).mono ?_
   · rintro s A A' row ⟨h1, h2, h3, h4⟩ hgr hr
     have hb : ∀ k, k < w.heap.size + 2 → A'.heap[k]? = A.heap[k]? := fun k hk => hgr.block k (by omega) (fun e => by have := (hr k e.symm).1; omega)
     exact ⟨hI s A A' row h1 hgr (fun r e => ⟨by have := (hr r e).1; omega, (hr r e).2⟩), (hb _ (by omega)).trans h2, (hb _ (by omega)).trans h3, Nat.le_trans h4 hgr.size⟩
   · rintro m pre x W hxr ⟨h1, h2, h3, h4⟩ hgood _
     rw [hst1 hgood] at h2
     refine yieldAny (m := 1) m ⟨fn, _, assign, body, run_yield h2 (hps x), roundIn_of_wpIn hfn (wpIn_mono (hround _ pre x W hxr h4 h1 hgood) ?_)⟩
     rintro ex a' Wa hex
     cases ex with
     | normal => ?_
     | _ => exact hex.elim
     obtain ⟨hga, hgo⟩ := hex
     have ka : Kept w.heap.size W Wa := .grown hga (fun r e => by cases e)
     have h2a := (ka.same _ (by omega) (by omega)).trans h2
     have h3a := (ka.same _ (by omega) (by omega)).trans h3
     have h4a := ka.size
     refine ⟨Wa.putObj (w.heap.size + 1) (.loop { rec_ .ready none with state := .busy }), run_beginRound h2a rfl, ?_⟩
     have hl2 : (Wa.putObj (w.heap.size + 1) (.loop { rec_ .ready none with state := .busy })).heap[w.heap.size + 1]? = some (.loop { rec_ .ready none with state := .busy }) := World.putObj_heap_same (by omega)
     have hk2 := (World.putObj_heap_other (w := Wa) (o := .loop { rec_ .ready none with state := .busy }) (show w.heap.size ≠ w.heap.size + 1 by omega)).trans h3a
     refine wpIn_mono (hgo (Wa.putObj (w.heap.size + 1) (.loop { rec_ .ready none with state := .busy })) (by simp) (fun k hk => World.putObj_heap_other hk) (hI _ _ _ _ (hI _ _ _ _ h1 hga (fun r e => by cases e)) (grownBy_putObj' Wa _ _) (fun r e => by cases e; exact ⟨by omega, _, h2a, rfl⟩))) ?_
     have fin : ∀ (c : Option Code) (W3 : World), I (pre ++ [x]) W3 → Held w.heap.size (Wa.putObj (w.heap.size + 1) (.loop { rec_ .ready none with state := .busy })) W3 → st (pre ++ [x]) = (if c.isNone then .ready else .done, c) →
      (Instr.endRound (w.heap.size + 1) c).run P W3 = .ok (.bool c.isNone) (W3.putObj (w.heap.size + 1) (.loop (rec_ (if c.isNone then .ready else .done) c))) ∧
      J (pre ++ [x]) (W3.putObj (w.heap.size + 1) (.loop (rec_ (if c.isNone then .ready else .done) c))) ∧ W.heap.size ≤ (W3.putObj (w.heap.size + 1) (.loop (rec_ (if c.isNone then .ready else .done) c))).heap.size := fun c W3 hi3 hk3 hs => by
      have hl3 := hk3.b.trans hl2
      have hd3 := hk3.a.trans hk2
      have hz3 : w.heap.size + 2 ≤ W3.heap.size := Nat.le_trans (by simp; omega) hk3.size
      refine ⟨run_endRound c hl3, ⟨hI _ _ _ _ hi3 (grownBy_putObj' W3 _ _) (fun r e => by cases e; exact ⟨by omega, _, hl3, rfl⟩), by rw [hs]; exact World.putObj_heap_same (by omega), (World.putObj_heap_other (by omega)).trans hd3, by simp; omega⟩, ?_⟩
      exact Nat.le_trans ka.size (Nat.le_trans (by simp) (Nat.le_trans hk3.size (by simp)))
     rintro e a3 W3 hp
     cases e with
     | normal =>
      obtain ⟨hgx, hi3, hk3⟩ := hp
      obtain ⟨hr, hj, hk⟩ := fin none W3 hi3 hk3 (hst1 (good_snoc hgood hgx))
      exact ⟨_, _, hr, by rw [hgx]; rfl, hj, hk⟩
     | ret =>
      obtain ⟨hgx, hi3, hk3⟩ := hp
      obtain ⟨hr, hj, hk⟩ := fin (some .ret) W3 hi3 hk3 (hst2 hgx)
      exact ⟨_, _, hr, by rw [hgx]; rfl, hj, hk⟩
     | _ => exact hp.elim
   · rintro e W2 ⟨⟨v, rfl⟩, hi, hl, hk, hz⟩
     by_cases hall : ∀ y ∈ xs, good y = true
     · rw [upTo_all hall] at hi hl
       rw [hst1 hall] at hl
       exact ⟨none, _, run_endLoop hl (by simp [rec_]), hdone _ (by simp; omega) (hI _ _ _ _ hi (grownBy_putObj' W2 _ _) (fun r e => by cases e; exact ⟨by omega, _, hl, rfl⟩)) hall ((World.putObj_heap_other (by omega)).trans hk)⟩
     · have hs : st (upTo good xs) = (.done, some .ret) := if_neg (fun hh => hall (upTo_ext hh))
       rw [hs] at hl
       exact ⟨some .ret, _, run_endLoop hl (by simp [rec_]), hstop _ (by simp; omega) (hI _ _ _ _ hi (grownBy_putObj' W2 _ _) (fun r e => by cases e; exact ⟨by omega, _, hl, rfl⟩)) hall ((World.putObj_heap_other (by omega)).trans hk)⟩
end Go.Proofs.YteclpblfleakhaaGreatDoor.Up
namespace Go.Proofs.YteclpblfleakhaaGreatDoor.When
open Go.RowKit Go.Shelf Go.Proofs.YteclpblfleakhaaGreatDoor.Mem Go.Proofs.YteclpblfleakhaaGreatDoor.Route Go.Proofs.YteclpblfleakhaaGreatDoor.Up
set_option linter.unusedVariables false
attribute [local go_sem] Oper.semAt_some
def encV (y : Sp × Vi) : Array Value := #[.agg #[.int .i64 y.2.px, .int .i64 y.2.py, .int .i64 y.2.we, .int .i64 y.2.wl, .int .i64 y.2.sv]]
theorem Old.below {β : Type} {B : Nat} {J : β → World → Prop} (h : Old B J) {s : β} {A A' : World} (hs : J s A) (hb : Below A.heap.size A A') : J s A' :=
 h s A A' none hs ⟨hb.os, hb.tape, hb.output, hb.size, fun k hk _ => hb.block k hk⟩ (fun r e => by cases e)
theorem visits_any (v : Vh) (xl xt : Option Addr) (Nl Cl Nt Ct : Nat) (w : World) :
 Calls Tryz.prog 81 #[.agg #[.int .i64 v.hx, .int .i64 v.hy, .int .i64 v.cp, .int .i64 v.st, .int .i64 v.en], .slice xl Nl Cl, .slice xt Nt Ct] w fun e w' =>
  e = .returned (.func (.func 98) #[] #[.pointer (some ⟨w.heap.size + 1, 0, none⟩), .pointer (some ⟨w.heap.size + 2, 0, none⟩), .pointer (some ⟨w.heap.size, 0, none⟩)]) ∧
  ((w.alloc (.cells #[.int .i64 v.hx, .int .i64 v.hy, .int .i64 v.cp, .int .i64 v.st, .int .i64 v.en] 32)).alloc (.cells #[.slice xl Nl Cl] 28)).alloc (.cells #[.slice xt Nt Ct] 37) = w' := by
 go_enter Tryz.func81, Tryz.ntmps81
 go_wp2
 go_ret
 exact ⟨rfl, rfl⟩
structure VisAt (B0 : Nat) (bl bt bv : Nat) (vl vt : Value) (v : Vh) (l : List (Int × Int)) (t : List Rq) (A : World) : Prop where
 hl : At A bl 28 #[vl]
 ht : At A bt 37 #[vt]
 hv : At A bv 32 #[.int .i64 v.hx, .int .i64 v.hy, .int .i64 v.cp, .int .i64 v.st, .int .i64 v.en]
 row : Row B0 A vl l
 rqs : Rqs B0 A vt t
set_option maxRecDepth 100000 in
set_option maxHeartbeats 4000000 in
theorem visits_runs (v : Vh) (l : List (Int × Int)) (t : List Rq) (vl vt : Value) (bl bt bv B0 B : Nat) (hB : B0 ≤ B) (xs : List (Sp × Vi)) (hxs : xs.map (·.2) = visL t l ++ [homeV v]) (I : List (Sp × Vi) → World → Prop) (hI : ∀ p A, I p A → VisAt B0 bl bt bv vl vt v l t A) :
 Runs2 Tryz.prog 98 #[] #[.pointer (some ⟨bl, 0, none⟩), .pointer (some ⟨bt, 0, none⟩), .pointer (some ⟨bv, 0, none⟩)] encV good xs B I := by
 intro ll J W hWB h0 hJ hJI hY
 refine callsIn_of_wp Tryz.func98 rfl trivial ?_ rfl
 simp only [Tryz.ntmps98, List.size_toArray, List.length_cons, List.length_nil, Nat.reduceAdd, Nat.reduceSub, Array.replicate_succ, Array.replicate_zero, List.push_toArray, List.append_toArray, List.nil_append, List.cons_append]
 have hV0 := hI _ _ (hJI _ _ h0)
 obtain ⟨xl, Nl, capl, rfl, hNl, hl0, hlc1, hlc2⟩ := hV0.row.opened
 obtain ⟨xt, Nt, capt, rfl, hNt0, htc1, htc2, ht0⟩ := hV0.rqs.opened
 have hNt := Lib.hid hNt0
 unfold maxLen at hlc2 htc2
 have l0 := hV0.hl.cell 0
 have hbl := hV0.hl.inside
 simp at l0
 have hWs : B ≤ W.heap.size := by omega
 have hlen : Hid (xs.length = Nl + 1) := Lib.hid (by have := congrArg List.length hxs; simp [visL, hNl.out] at this; omega)
 have hxs' := Lib.hid hxs
 have hY' := Lib.hid hY
 have hI' := Lib.hid hI
 have hgetS : Hid (∀ (pre rest : List (Sp × Vi)) (y : Sp × Vi) (s : Int × Int), xs = pre ++ y :: rest → l[pre.length]? = some s → y.2 = visV t s) := Lib.hid (by
  intro pre rest y s e hs
  rw [e, List.map_append, List.map_cons] at hxs
  have h1 := congrArg (fun z => z[pre.length]?) hxs
  simp [visL] at h1
  rw [List.getElem?_append_left (by simpa using (List.getElem?_eq_some_iff.1 hs).1), List.getElem?_map, hs] at h1
  simpa using h1)
 have hgetH : Hid (∀ (pre rest : List (Sp × Vi)) (y : Sp × Vi), xs = pre ++ y :: rest → l.length = pre.length → y.2 = homeV v) := Lib.hid (by
  intro pre rest y e hs
  rw [e, List.map_append, List.map_cons] at hxs
  have h1 := congrArg (fun z => z[pre.length]?) hxs
  simp [visL] at h1
  rw [List.getElem?_append_right (by simp [hs])] at h1
  simpa [hs] using h1)
 clear hY hI hV0 hNt0 ht0 hxs
 gi_wp2
 gi_loopw [11] (fun i wr => ∃ (pre : List (Sp × Vi)) (k : Nat) (rest : List (Sp × Vi)), i = .int .i64 k ∧ k ≤ Nl ∧ pre.length = k ∧ xs = pre ++ rest ∧ (∀ y ∈ pre, good y = true) ∧ J pre wr ∧ B ≤ wr.heap.size)
  (fun i _ => Nl - (intOf i).toNat)
 case atStart => exact ⟨[], 0, xs, rfl, Nat.zero_le _, rfl, rfl, (fun y hy => by cases hy), h0, hWs⟩
 case round =>
  obtain ⟨pre, k, rest, rfl, hk, hpk, hx, hg, hj, hs⟩ := hrel
  clear h0
  have hpk' := Lib.hid hpk
  have hx' := Lib.hid hx
  have hg' := Lib.hid hg
  obtain ⟨y, rest, rfl⟩ : ∃ y r, rest = y :: r := by
   cases rest with
   | nil =>
    exfalso
    have h1 := hlen.out
    rw [hx] at h1
    simp at h1
    omega
   | cons y r => exact ⟨y, r, rfl⟩
  clear hpk hx hg
  by_cases hlt : k < Nl
  · obtain ⟨s, hsl⟩ : ∃ s, l[k]? = some s := ⟨l[k]'(by rw [hNl.out]; exact hlt), List.getElem?_eq_getElem _⟩
    have hVk := hI'.out _ _ (hJI _ _ hj)
    obtain ⟨g, o, rfl, hgB, c0, c1⟩ := Row.stop hVk.row hsl
    have hy2 : Hid (y.2 = visV t s) := Lib.hid (hgetS.out pre rest y s hx'.out (by rw [hpk'.out]; exact hsl))
    have hjV := hJ.new hj (.cells #[.int .i64 s.1, .int .i64 s.2] 82)
    have hVV := hI'.out _ _ (hJI _ _ hjV)
    have t0 := hVV.ht.cell 0
    have hbt := hVk.ht.inside
    simp at t0
    have hss : B ≤ (wr.alloc (.cells #[.int .i64 s.1, .int .i64 s.2] 82)).heap.size := by simp; omega
    have hvi := visitOf_any s.1 s.2 _ t _ (hVV.rqs.more (Nat.le_trans hB hss))
    have e1 : (s.1, s.2) = s := rfl
    rw [e1] at hvi
    clear hVk hVV hsl
    gi_wp2_with fail
    refine ⟨trivial, ?_⟩
    refine (callsIn_wide.2 hvi).mono ?_
    clear hvi
    rintro e w3 ⟨rfl, hb3⟩
    have hj3 := Old.below hJ hjV hb3
    have hs3 : B ≤ w3.heap.size := Nat.le_trans hss hb3.size
    have hj4 := hJ.new hj3 (.cells #[.int .i64 (visV t s).px, .int .i64 (visV t s).py, .int .i64 (visV t s).we, .int .i64 (visV t s).wl, .int .i64 (visV t s).sv] 189)
    obtain ⟨fn, tmps, assign, body, hyy, hR⟩ := hY'.out 1 pre y (w3.alloc (.cells #[.int .i64 (visV t s).px, .int .i64 (visV t s).py, .int .i64 (visV t s).we, .int .i64 (visV t s).wl, .int .i64 (visV t s).sv] 189)) ⟨rest, hx'.out⟩ hj4 hg'.out (by simp; omega)
    dsimp only [encV] at hyy
    rw [hy2.out] at hyy
    clear hb3 hj3 hjV hj hj4 c0 c1 t0 hss
    gi_wp2_with fail
    refine hR.mono ?_
    clear hR hyy
    rintro e w4 ⟨rfl, hj4, hk4⟩
    have hs4 : B ≤ w4.heap.size := Nat.le_trans (by simp; omega) hk4
    clear hk4
    cases hgood : good y
    · gi_wp2
      refine bodyPost_ret (results_none rfl _ _ _) rfl ?_
      refine ⟨⟨_, rfl⟩, ?_⟩
      rw [hx'.out, upTo_append hg'.out, upTo_bad hgood]
      exact hj4
    · have hgg := Lib.hid (good_snoc hg'.out hgood)
      clear hgood
      gi_wp2
      go_roundw
      case rel =>
       exact ⟨pre ++ [y], k + 1, rest, by go_num, hlt, by simp [hpk'.out], by rw [hx'.out]; simp, hgg.out, hj4, hs4⟩
      case measure => simp [intOf]; omega
  · obtain rfl : k = Nl := by omega
    have hVk := hI'.out _ _ (hJI _ _ hj)
    have hy2 : Hid (y.2 = homeV v) := Lib.hid (hgetH.out pre rest y hx'.out (by rw [hpk'.out, hNl.out]))
    have v0 := hVk.hv.cell 0
    have v1 := hVk.hv.cell 1
    have v3 := hVk.hv.cell 4
    have hbv := hVk.hv.inside
    simp at v0 v1 v3
    have hr0 : rest = [] := by
     have h1 := hlen.out
     rw [hx'.out] at h1
     simp at h1
     exact List.eq_nil_of_length_eq_zero (by have := hpk'.out; omega)
    subst hr0
    obtain ⟨fn, tmps, assign, body, hyy, hR⟩ := hY'.out 1 pre y wr ⟨[], hx'.out⟩ hj hg'.out hs
    dsimp only [encV] at hyy
    rw [hy2.out] at hyy
    dsimp only [homeV] at hyy
    clear hVk
    gi_wp2_with fail
    refine hR.mono ?_
    clear hR hyy
    rintro e w4 ⟨rfl, hj4, hk4⟩
    gi_wp2
    go_end0
    refine ⟨⟨_, rfl⟩, ?_⟩
    rw [hx'.out, upTo_append hg'.out]
    have e3 : upTo good [y] = [y] := by simp [upTo]
    rw [e3]
    exact hj4
end Go.Proofs.YteclpblfleakhaaGreatDoor.When

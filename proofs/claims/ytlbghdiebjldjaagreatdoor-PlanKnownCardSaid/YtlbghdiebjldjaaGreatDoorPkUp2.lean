import Derived.Test.YtlbghdiebjldjaaGreatDoorPkRouteRefReq

namespace Go.Proofs.YtlbghdiebjldjaaGreatDoor.Up
open Go.RowKit
set_option linter.unusedVariables false
structure Held (n : Nat) (W W' : World) : Prop where
 size : W.heap.size ≤ W'.heap.size
 a : W'.heap[n]? = W.heap[n]?
 b : W'.heap[n + 1]? = W.heap[n + 1]?
theorem Held.refl (n : Nat) (W : World) : Held n W W := ⟨Nat.le_refl _, rfl, rfl⟩
theorem Held.trans {n : Nat} {X Y Z : World} (h : Held n X Y) (k : Held n Y Z) : Held n X Z := ⟨Nat.le_trans h.size k.size, k.a.trans h.a, k.b.trans h.b⟩
theorem Held.grown {n : Nat} {W W' : World} {row : Option Nat} (h : W.grownBy W' row) (hn : n + 1 < W.heap.size) (hr : ∀ r, row = some r → r ≠ n ∧ r ≠ n + 1) : Held n W W' :=
 ⟨h.size, h.block n (by omega) (fun e => (hr n e.symm).1 rfl), h.block (n + 1) hn (fun e => (hr (n + 1) e.symm).2 rfl)⟩
theorem Held.alloc {n : Nat} (W : World) (o : Obj) (hn : n + 1 < W.heap.size) : Held n W (W.alloc o) := .grown (World.grownBy_alloc W o none) hn (fun r e => by cases e)
theorem Held.setCell {n : Nat} (W : World) {b i : Nat} (h1 : b ≠ n) (h2 : b ≠ n + 1) (v : Value) : Held n W (W.setCell ⟨b, i, none⟩ v) :=
 ⟨by simp, Below.heap_setCell W _ v n (by simp; omega), Below.heap_setCell W _ v (n + 1) (by simp; omega)⟩
def Runs2 {α : Type} (P : Program) (gf : Nat) (fst lb : Array Value) (encs : α → Array Value) (good : α → Bool) (xs : List α) (B : Nat) (I : List α → World → Prop) : Prop :=
 ∀ (l : Nat) (J : List α → World → Prop) (W : World), W.heap.size = B → J [] W → Old B J → (∀ s A, J s A → I s A) →
  (∀ (m : Nat) pre x A, (∃ rest, xs = pre ++ x :: rest) → J pre A → (∀ y ∈ pre, good y = true) → B ≤ A.heap.size → YieldAt Fence.wide m P l (encs x) A fun e A' => e = .returned (.bool (good x)) ∧ J (pre ++ [x]) A' ∧ A.heap.size ≤ A'.heap.size) →
  CallsIn Fence.wide 2 P gf (fst ++ #[.func (.yield l) #[] #[]] ++ lb) W fun e A' => (∃ v, e = .returned v) ∧ J (upTo good xs) A'
def GoOn2 {α : Type} (P : Program) (l : Nat) (body : Code) (n : Nat) (I : List α → World → Prop) (good : α → Bool) (pre : List α) (x : α) (W : World) (a' : Act) (Wa : World) : Prop :=
 W.grownBy Wa none ∧ ∀ V, V.heap.size = Wa.heap.size → (∀ k, k ≠ n + 1 → V.heap[k]? = Wa.heap[k]?) → I pre V →
  body.wpIn (Fence.wide.inRound l) 1 P (upPost (good x) fun W' => I (pre ++ [x]) W' ∧ Held n V W') a' V
set_option maxHeartbeats 1000000 in
theorem rangesRound2 {α : Type} {P : Program} {g : Operand} {ps : Array Tmp} {assign body : Code} {Q : Exit → Act → World → Prop} {a : Act} {w : World}
 {gf : Nat} {fst lb : Array Value} (hg : a.eval g = .func (.func gf) fst lb) (eg : ∀ args w, (callFunc gf args).run P w = .ok (.enter gf args) w)
 {encs : α → Array Value} {good : α → Bool} {xs : List α} (hps : ∀ x, (encs x).size = ps.size) (I : List α → World → Prop) (hI : Old w.heap.size I) (h0 : I [] w) (hseq : Runs2 P gf fst lb encs good xs (w.heap.size + 2) I)
 (hround : ∀ (l : Nat) (pre : List α) (x : α) (W : World), (∃ rest, xs = pre ++ x :: rest) → w.heap.size + 2 ≤ W.heap.size → I pre W → (∀ y ∈ pre, good y = true) →
  assign.wpIn (Fence.wide.inRound l) 1 P (Exit.then (GoOn2 P l body w.heap.size I good pre x W) (fun _ _ _ => False)) { tmps := (ps.zip (encs x)).foldl (fun t (p, v) => t.setIfInBounds p v) a.tmps, defers := [] } W)
 (hdone : ∀ (W : World), w.heap.size + 2 ≤ W.heap.size → I xs W → (∀ y ∈ xs, good y = true) → W.heap[w.heap.size]? = some (.deferred (some [])) → Q .normal { a with defers := { target := .collected w.heap.size, args := #[] } :: a.defers } W)
 (hstop : ∀ (W : World), w.heap.size + 2 ≤ W.heap.size → I (upTo good xs) W → ¬ (∀ y ∈ xs, good y = true) → W.heap[w.heap.size]? = some (.deferred (some [])) → Code.ret.wpIn Fence.wide 3 P Q { a with defers := { target := .collected w.heap.size, args := #[] } :: a.defers } W) :
 (Code.rangeFunc g ps assign body).wpIn Fence.wide 3 P Q a w := by
 refine wpIn_rangeFunc fun fn hfn => ?_
 let rec_ : LoopState → Option Code → Loop := fun st pe => { state := st, pending := pe, fn, tmps := a.tmps, params := ps, assign, body, defers := w.heap.size }
 let W1 : World := (w.alloc (.deferred (some []))).alloc (.loop (rec_ .ready none))
 have hs1 : W1.heap.size = w.heap.size + 2 := by simp [W1]
 have hL : W1.heap[w.heap.size + 1]? = some (.loop (rec_ .ready none)) := by
  have h := World.alloc_heap_new (w.alloc (.deferred (some []))) (.loop (rec_ .ready none))
  rwa [World.size_alloc] at h
 have hD : W1.heap[w.heap.size]? = some (.deferred (some [])) := (Below.heap_alloc _ _ _ (by simp)).trans (World.alloc_heap_new w _)
 have hI1 : I [] W1 := hI.new (hI.new h0 _) _
 let st : List α → LoopState × Option Code := fun pre => if ∀ y ∈ pre, good y = true then (.ready, none) else (.done, some .ret)
 let J : List α → World → Prop := fun pre W => I pre W ∧ W.heap[w.heap.size + 1]? = some (.loop (rec_ (st pre).1 (st pre).2)) ∧ W.heap[w.heap.size]? = some (.deferred (some [])) ∧ w.heap.size + 2 ≤ W.heap.size
 have hst0 : st [] = (.ready, none) := if_pos (fun y hy => by cases hy)
 have hst1 : ∀ {pre : List α}, (∀ y ∈ pre, good y = true) → st pre = (.ready, none) := fun h => if_pos h
 have hst2 : ∀ {pre : List α} {x : α}, good x = false → st (pre ++ [x]) = (.done, some .ret) := fun {pre x} h => if_neg (fun hh => by have := hh x (by simp); rw [h] at this; cases this)
 refine ⟨w.heap.size + 1, [{ target := .collected w.heap.size, args := #[] }], W1, { target := .fn (.func gf) lb, args := fst ++ #[.func (.yield (w.heap.size + 1)) #[] #[]] }, W1, gf,
  fst ++ #[.func (.yield (w.heap.size + 1)) #[] #[]] ++ lb, W1, run_enterLoop_outer _ _ _ _ _, ?_, fun _ _ => trivial, by simp [invoke, go_sem, eg], fun _ => by omega, ?_⟩
 · simp only [resolve, hg]
   simp [go_sem]
 · refine (hseq (w.heap.size + 1) J W1 hs1 ⟨hI1, by rw [hst0]; exact hL, hD, by omega⟩ ?_ (fun s A h => h.1) ?_).mono ?_
   · rintro s A A' row ⟨h1, h2, h3, h4⟩ hgr hr
     have hb : ∀ k, k < w.heap.size + 2 → A'.heap[k]? = A.heap[k]? := fun k hk => hgr.block k (by omega) (fun e => by have := (hr k e.symm).1; omega)
     exact ⟨hI s A A' row h1 hgr (fun r e => ⟨by have := (hr r e).1; omega, (hr r e).2⟩), (hb _ (by omega)).trans h2, (hb _ (by omega)).trans h3, Nat.le_trans h4 hgr.size⟩
   · rintro m pre x W hxr ⟨h1, h2, h3, h4⟩ hgood _
     rw [hst1 hgood] at h2
     refine yieldAny (m := 1) m ⟨fn, _, assign, body, run_yield h2 (hps x), roundIn_of_wpIn hfn (wpIn_mono (hround _ pre x W hxr h4 h1 hgood) ?_)⟩
     rintro ex a' Wa hex
     cases ex with
     | normal => ?_
     | _ => exact hex.elim
     obtain ⟨hga, hgo⟩ := hex
     have ka : Kept w.heap.size W Wa := .grown hga (fun r e => by cases e)
     have h2a := (ka.same _ (by omega) (by omega)).trans h2
     have h3a := (ka.same _ (by omega) (by omega)).trans h3
     have h4a := ka.size
     refine ⟨Wa.putObj (w.heap.size + 1) (.loop { rec_ .ready none with state := .busy }), run_beginRound h2a rfl, ?_⟩
     have hl2 : (Wa.putObj (w.heap.size + 1) (.loop { rec_ .ready none with state := .busy })).heap[w.heap.size + 1]? = some (.loop { rec_ .ready none with state := .busy }) := World.putObj_heap_same (by omega)
     have hk2 := (World.putObj_heap_other (w := Wa) (o := .loop { rec_ .ready none with state := .busy }) (show w.heap.size ≠ w.heap.size + 1 by omega)).trans h3a
     refine wpIn_mono (hgo (Wa.putObj (w.heap.size + 1) (.loop { rec_ .ready none with state := .busy })) (by simp) (fun k hk => World.putObj_heap_other hk) (hI _ _ _ _ (hI _ _ _ _ h1 hga (fun r e => by cases e)) (grownBy_putObj' Wa _ _) (fun r e => by cases e; exact ⟨by omega, _, h2a, rfl⟩))) ?_
     have fin : ∀ (c : Option Code) (W3 : World), I (pre ++ [x]) W3 → Held w.heap.size (Wa.putObj (w.heap.size + 1) (.loop { rec_ .ready none with state := .busy })) W3 → st (pre ++ [x]) = (if c.isNone then .ready else .done, c) →
      (Instr.endRound (w.heap.size + 1) c).run P W3 = .ok (.bool c.isNone) (W3.putObj (w.heap.size + 1) (.loop (rec_ (if c.isNone then .ready else .done) c))) ∧
      J (pre ++ [x]) (W3.putObj (w.heap.size + 1) (.loop (rec_ (if c.isNone then .ready else .done) c))) ∧ W.heap.size ≤ (W3.putObj (w.heap.size + 1) (.loop (rec_ (if c.isNone then .ready else .done) c))).heap.size := fun c W3 hi3 hk3 hs => by
      have hl3 := hk3.b.trans hl2
      have hd3 := hk3.a.trans hk2
      have hz3 : w.heap.size + 2 ≤ W3.heap.size := Nat.le_trans (by simp; omega) hk3.size
      refine ⟨run_endRound c hl3, ⟨hI _ _ _ _ hi3 (grownBy_putObj' W3 _ _) (fun r e => by cases e; exact ⟨by omega, _, hl3, rfl⟩), by rw [hs]; exact World.putObj_heap_same (by omega), (World.putObj_heap_other (by omega)).trans hd3, by simp; omega⟩, ?_⟩
      exact Nat.le_trans ka.size (Nat.le_trans (by simp) (Nat.le_trans hk3.size (by simp)))
     rintro e a3 W3 hp
     cases e with
     | normal =>
      obtain ⟨hgx, hi3, hk3⟩ := hp
      obtain ⟨hr, hj, hk⟩ := fin none W3 hi3 hk3 (hst1 (good_snoc hgood hgx))
      exact ⟨_, _, hr, by rw [hgx]; rfl, hj, hk⟩
     | ret =>
      obtain ⟨hgx, hi3, hk3⟩ := hp
      obtain ⟨hr, hj, hk⟩ := fin (some .ret) W3 hi3 hk3 (hst2 hgx)
      exact ⟨_, _, hr, by rw [hgx]; rfl, hj, hk⟩
     | _ => exact hp.elim
   · rintro e W2 ⟨⟨v, rfl⟩, hi, hl, hk, hz⟩
     by_cases hall : ∀ y ∈ xs, good y = true
     · rw [upTo_all hall] at hi hl
       rw [hst1 hall] at hl
       exact ⟨none, _, run_endLoop hl (by simp [rec_]), hdone _ (by simp; omega) (hI _ _ _ _ hi (grownBy_putObj' W2 _ _) (fun r e => by cases e; exact ⟨by omega, _, hl, rfl⟩)) hall ((World.putObj_heap_other (by omega)).trans hk)⟩
     · have hs : st (upTo good xs) = (.done, some .ret) := if_neg (fun hh => hall (upTo_ext hh))
       rw [hs] at hl
       exact ⟨some .ret, _, run_endLoop hl (by simp [rec_]), hstop _ (by simp; omega) (hI _ _ _ _ hi (grownBy_putObj' W2 _ _) (fun r e => by cases e; exact ⟨by omega, _, hl, rfl⟩)) hall ((World.putObj_heap_other (by omega)).trans hk)⟩
end Go.Proofs.YtlbghdiebjldjaaGreatDoor.Up
namespace Go.Proofs.YtlbghdiebjldjaaGreatDoor.When
open Go.RowKit Go.Shelf Go.Proofs.YtlbghdiebjldjaaGreatDoor.Mem Go.Proofs.YtlbghdiebjldjaaGreatDoor.Route Go.Proofs.YtlbghdiebjldjaaGreatDoor.Up
set_option linter.unusedVariables false
attribute [local go_sem] Oper.semAt_some
def encV (y : Sp × Vi) : Array Value := #[.agg #[.int .i64 y.2.px, .int .i64 y.2.py, .int .i64 y.2.we, .int .i64 y.2.wl, .int .i64 y.2.sv]]
theorem Old.below {β : Type} {B : Nat} {J : β → World → Prop} (h : Old B J) {s : β} {A A' : World} (hs : J s A) (hb : Below A.heap.size A A') : J s A' :=
 h s A A' none hs ⟨hb.os, hb.tape, hb.output, hb.size, fun k hk _ => hb.block k hk⟩ (fun r e => by cases e)
theorem visits_any (v : Vh) (xl xt : Option Addr) (Nl Cl Nt Ct : Nat) (w : World) :
 Calls Tryz.prog 78 #[.agg #[.int .i64 v.hx, .int .i64 v.hy, .int .i64 v.cp, .int .i64 v.st, .int .i64 v.en], .slice xl Nl Cl, .slice xt Nt Ct] w fun e w' =>
  e = .returned (.func (.func 104) #[] #[.pointer (some ⟨w.heap.size + 1, 0, none⟩), .pointer (some ⟨w.heap.size + 2, 0, none⟩), .pointer (some ⟨w.heap.size, 0, none⟩)]) ∧
  ((w.alloc (.cells #[.int .i64 v.hx, .int .i64 v.hy, .int .i64 v.cp, .int .i64 v.st, .int .i64 v.en] 64)).alloc (.cells #[.slice xl Nl Cl] 59)).alloc (.cells #[.slice xt Nt Ct] 29) = w' := by
 go_enter Tryz.func78, Tryz.ntmps78
 go_wp2
 go_ret
 exact ⟨rfl, rfl⟩
structure VisAt (B0 : Nat) (bl bt bv : Nat) (vl vt : Value) (v : Vh) (l : List (Int × Int)) (t : List Rq) (A : World) : Prop where
 hl : At A bl 59 #[vl]
 ht : At A bt 29 #[vt]
 hv : At A bv 64 #[.int .i64 v.hx, .int .i64 v.hy, .int .i64 v.cp, .int .i64 v.st, .int .i64 v.en]
 row : Row B0 A vl l
 rqs : Rqs B0 A vt t
set_option maxRecDepth 100000 in
set_option maxHeartbeats 4000000 in
theorem visits_runs (v : Vh) (l : List (Int × Int)) (t : List Rq) (vl vt : Value) (bl bt bv B0 B : Nat) (hB : B0 ≤ B) (xs : List (Sp × Vi)) (hxs : xs.map (·.2) = visL t l ++ [homeV v]) (I : List (Sp × Vi) → World → Prop) (hI : ∀ p A, I p A → VisAt B0 bl bt bv vl vt v l t A) :
 Runs2 Tryz.prog 104 #[] #[.pointer (some ⟨bl, 0, none⟩), .pointer (some ⟨bt, 0, none⟩), .pointer (some ⟨bv, 0, none⟩)] encV good xs B I := by
 intro ll J W hWB h0 hJ hJI hY
 refine callsIn_of_wp Tryz.func104 rfl trivial ?_ rfl
 simp only [Tryz.ntmps104, List.size_toArray, List.length_cons, List.length_nil, Nat.reduceAdd, Nat.reduceSub, Array.replicate_succ, Array.replicate_zero, List.push_toArray, List.append_toArray, List.nil_append, List.cons_append]
 have hV0 := hI _ _ (hJI _ _ h0)
 obtain ⟨xl, Nl, capl, rfl, hNl, hl0, hlc1, hlc2⟩ := hV0.row.opened
 obtain ⟨xt, Nt, capt, rfl, hNt0, htc1, htc2, ht0⟩ := hV0.rqs.opened
 have hNt := Lib.hid hNt0
 unfold maxLen at hlc2 htc2
 have l0 := hV0.hl.cell 0
 have hbl := hV0.hl.inside
 simp at l0
 have hWs : B ≤ W.heap.size := by omega
 have hlen : Hid (xs.length = Nl + 1) := Lib.hid (by have := congrArg List.length hxs; simp [visL, hNl.out] at this; omega)
 have hxs' := Lib.hid hxs
 have hY' := Lib.hid hY
 have hI' := Lib.hid hI
 have hgetS : Hid (∀ (pre rest : List (Sp × Vi)) (y : Sp × Vi) (s : Int × Int), xs = pre ++ y :: rest → l[pre.length]? = some s → y.2 = visV t s) := Lib.hid (by
  intro pre rest y s e hs
  rw [e, List.map_append, List.map_cons] at hxs
  have h1 := congrArg (fun z => z[pre.length]?) hxs
  simp [visL] at h1
  rw [List.getElem?_append_left (by simpa using (List.getElem?_eq_some_iff.1 hs).1), List.getElem?_map, hs] at h1
  simpa using h1)
 have hgetH : Hid (∀ (pre rest : List (Sp × Vi)) (y : Sp × Vi), xs = pre ++ y :: rest → l.length = pre.length → y.2 = homeV v) := Lib.hid (by
  intro pre rest y e hs
  rw [e, List.map_append, List.map_cons] at hxs
  have h1 := congrArg (fun z => z[pre.length]?) hxs
  simp [visL] at h1
  rw [List.getElem?_append_right (by simp [hs])] at h1
  simpa [hs] using h1)
 clear hY hI hV0 hNt0 ht0 hxs
 gi_wp2
 gi_loopw [11] (fun i wr => ∃ (pre : List (Sp × Vi)) (k : Nat) (rest : List (Sp × Vi)), i = .int .i64 k ∧ k ≤ Nl ∧ pre.length = k ∧ xs = pre ++ rest ∧ (∀ y ∈ pre, good y = true) ∧ J pre wr ∧ B ≤ wr.heap.size)
  (fun i _ => Nl - (intOf i).toNat)
 case atStart => exact ⟨[], 0, xs, rfl, Nat.zero_le _, rfl, rfl, (fun y hy => by cases hy), h0, hWs⟩
 case round =>
  obtain ⟨pre, k, rest, rfl, hk, hpk, hx, hg, hj, hs⟩ := hrel
  clear h0
  have hpk' := Lib.hid hpk
  have hx' := Lib.hid hx
  have hg' := Lib.hid hg
  obtain ⟨y, rest, rfl⟩ : ∃ y r, rest = y :: r := by
   cases rest with
   | nil =>
    exfalso
    have h1 := hlen.out
    rw [hx] at h1
    simp at h1
    omega
   | cons y r => exact ⟨y, r, rfl⟩
  clear hpk hx hg
  by_cases hlt : k < Nl
  · obtain ⟨s, hsl⟩ : ∃ s, l[k]? = some s := ⟨l[k]'(by rw [hNl.out]; exact hlt), List.getElem?_eq_getElem _⟩
    have hVk := hI'.out _ _ (hJI _ _ hj)
    obtain ⟨g, o, rfl, hgB, c0, c1⟩ := Row.stop hVk.row hsl
    have hy2 : Hid (y.2 = visV t s) := Lib.hid (hgetS.out pre rest y s hx'.out (by rw [hpk'.out]; exact hsl))
    have hjV := hJ.new hj (.cells #[.int .i64 s.1, .int .i64 s.2] 75)
    have hVV := hI'.out _ _ (hJI _ _ hjV)
    have t0 := hVV.ht.cell 0
    have hbt := hVk.ht.inside
    simp at t0
    have hss : B ≤ (wr.alloc (.cells #[.int .i64 s.1, .int .i64 s.2] 75)).heap.size := by simp; omega
    have hvi := visitOf_any s.1 s.2 _ t _ (hVV.rqs.more (Nat.le_trans hB hss))
    have e1 : (s.1, s.2) = s := rfl
    rw [e1] at hvi
    clear hVk hVV hsl
    gi_wp2_with fail
    refine ⟨trivial, ?_⟩
    refine (callsIn_wide.2 hvi).mono ?_
    clear hvi
    rintro e w3 ⟨rfl, hb3⟩
    have hj3 := Old.below hJ hjV hb3
    have hs3 : B ≤ w3.heap.size := Nat.le_trans hss hb3.size
    have hj4 := hJ.new hj3 (.cells #[.int .i64 (visV t s).px, .int .i64 (visV t s).py, .int .i64 (visV t s).we, .int .i64 (visV t s).wl, .int .i64 (visV t s).sv] 173)
    obtain ⟨fn, tmps, assign, body, hyy, hR⟩ := hY'.out 1 pre y (w3.alloc (.cells #[.int .i64 (visV t s).px, .int .i64 (visV t s).py, .int .i64 (visV t s).we, .int .i64 (visV t s).wl, .int .i64 (visV t s).sv] 173)) ⟨rest, hx'.out⟩ hj4 hg'.out (by simp; omega)
    dsimp only [encV] at hyy
    rw [hy2.out] at hyy
    clear hb3 hj3 hjV hj hj4 c0 c1 t0 hss
    gi_wp2_with fail
    refine hR.mono ?_
    clear hR hyy
    rintro e w4 ⟨rfl, hj4, hk4⟩
    have hs4 : B ≤ w4.heap.size := Nat.le_trans (by simp; omega) hk4
    clear hk4
    cases hgood : good y
    · gi_wp2
      refine bodyPost_ret (results_none rfl _ _ _) rfl ?_
      refine ⟨⟨_, rfl⟩, ?_⟩
      rw [hx'.out, upTo_append hg'.out, upTo_bad hgood]
      exact hj4
    · have hgg := Lib.hid (good_snoc hg'.out hgood)
      clear hgood
      gi_wp2
      go_roundw
      case rel =>
       exact ⟨pre ++ [y], k + 1, rest, by go_num, hlt, by simp [hpk'.out], by rw [hx'.out]; simp, hgg.out, hj4, hs4⟩
      case measure => simp [intOf]; omega
  · obtain rfl : k = Nl := by omega
    have hVk := hI'.out _ _ (hJI _ _ hj)
    have hy2 : Hid (y.2 = homeV v) := Lib.hid (hgetH.out pre rest y hx'.out (by rw [hpk'.out, hNl.out]))
    have v0 := hVk.hv.cell 0
    have v1 := hVk.hv.cell 1
    have v3 := hVk.hv.cell 4
    have hbv := hVk.hv.inside
    simp at v0 v1 v3
    have hr0 : rest = [] := by
     have h1 := hlen.out
     rw [hx'.out] at h1
     simp at h1
     exact List.eq_nil_of_length_eq_zero (by have := hpk'.out; omega)
    subst hr0
    obtain ⟨fn, tmps, assign, body, hyy, hR⟩ := hY'.out 1 pre y wr ⟨[], hx'.out⟩ hj hg'.out hs
    dsimp only [encV] at hyy
    rw [hy2.out] at hyy
    dsimp only [homeV] at hyy
    clear hVk
    gi_wp2_with fail
    refine hR.mono ?_
    clear hR hyy
    rintro e w4 ⟨rfl, hj4, hk4⟩
    gi_wp2
    go_end0
    refine ⟨⟨_, rfl⟩, ?_⟩
    rw [hx'.out, upTo_append hg'.out]
    have e3 : upTo good [y] = [y] := by simp [upTo]
    rw [e3]
    exact hj4
attribute [local go_sem] Oper.semAt_some
def flatT (l : List Tm) : List Value := (l.map tmC).flatten
theorem flatT_snoc (l : List Tm) (s : Tm) : flatT (l ++ [s]) = flatT l ++ [.int .i64 s.ar, .int .i64 s.be, .int .i64 s.lv] := by simp [flatT, tmC]
theorem flatT_length (l : List Tm) : (flatT l).length = l.length * 3 := by
 induction l with
 | nil => rfl
 | cons s l ih =>
  have : flatT (s :: l) = tmC s ++ flatT l := by simp [flatT]
  rw [this, List.length_append, ih]
  simp [tmC]
  omega
theorem Tms.of_owns {B : Nat} {W : World} {base n : Nat} {e : TypeId} {v : Value} {l : List Tm} (h : W.ownsRow base e 3 v n (flatT l)) (hn : n = l.length) (hB : W.heap.size ≤ B) : Tms B W v l :=
 RowB.of_owns h (by simpa using hn) (fun r hr => by obtain ⟨s, _, rfl⟩ := List.mem_map.1 hr; rfl) hB
theorem owns_slice {W : World} {base size k : Nat} {e : TypeId} {v : Value} {xs : List Value} (h : W.ownsRow base e size v k xs) : ∃ x cap, v = .slice x k cap ∧ cap ≤ maxLen ∧ k ≤ cap := by
 obtain ⟨hl, ⟨rfl, rfl⟩ | ⟨g, cap, cur, rfl, hb, hg, hc1, hc2, hs, ht⟩⟩ := h
 · exact ⟨none, 0, rfl, Nat.zero_le _, Nat.le_refl _⟩
 · exact ⟨_, cap, rfl, hc2, hc1⟩
theorem owns_same {W W' : World} {base size k : Nat} {e : TypeId} {v : Value} {xs : List Value} (h : W.ownsRow base e size v k xs) (hs : ∀ g, base ≤ g → g < W.heap.size → (∃ cs t, W.heap[g]? = some (.cells cs t (0, 0))) → W'.heap[g]? = W.heap[g]?) : W'.ownsRow base e size v k xs := by
 obtain ⟨hl, h1 | ⟨g, cap, cur, rfl, hb, hg, hr⟩⟩ := h
 · exact ⟨hl, .inl h1⟩
 · exact ⟨hl, .inr ⟨g, cap, cur, rfl, hb, (hs g hb (Array.getElem?_eq_some_iff.1 hg).1 ⟨_, _, hg⟩).trans hg, hr⟩⟩
theorem owns_old {A A' : World} {base size k : Nat} {e : TypeId} {v : Value} {xs : List Value} {row : Option Nat} (h : A.ownsRow base e size v k xs) (hg : A.grownBy A' row) (hr : ∀ r, row = some r → r < base ∨ ∃ o, A.heap[r]? = some o ∧ o.isCells = false) : A'.ownsRow base e size v k xs := by
 refine owns_same h fun g hb hgs ⟨cs, t, hc⟩ => hg.block g hgs fun e => ?_
 rcases hr g e.symm with h1 | ⟨o, h1, h2⟩
 · omega
 · rw [hc] at h1; cases h1; cases h2
theorem owns_far {A : World} {base size k : Nat} {e : TypeId} {v : Value} {xs : List Value} (h : A.ownsRow base e size v k xs) {b : Nat} (hb : b < base) (i : Nat) (x : Value) : (A.setCell ⟨b, i, none⟩ x).ownsRow base e size v k xs :=
 owns_same h fun g hg _ _ => Below.heap_setCell _ _ _ _ (by show g ≠ b; omega)
theorem At.oldCells {A A' : World} {g n : Nat} {t : TypeId} {cs : Array Value} {row : Option Nat} (h : At A g t cs) (hg : A.grownBy A' row) (hr : ∀ r, row = some r → n ≤ r ∧ ∃ o, A.heap[r]? = some o ∧ o.isCells = false) : At A' g t cs :=
 (hg.block g h.inside (fun e => by
  obtain ⟨_, o, ho, hc⟩ := hr g e.symm
  have h' : A.heap[g]? = some (.cells cs t (0, 0)) := h
  rw [h'] at ho
  cases ho
  cases hc)).trans h
theorem At.grownOff {A A' : World} {g b : Nat} {t : TypeId} {cs : Array Value} (h : At A g t cs) (hg : A.grownBy A' (some b)) (hne : g ≠ b) : At A' g t cs := (hg.block g h.inside (fun e => hne (by cases e; rfl))).trans h
structure TripI (w : World) (v : Vh) (vl vt : Value) (g bl bt bv n : Nat) (pre : List (Sp × Vi)) (W : World) : Prop where
 spot : ∃ o1 o2, At W g 138 #[.int .i64 o1, .int .i64 o2, .int .i64 (endA (sp0 v) (pre.map (·.2))).now, .int .i64 (endA (sp0 v) (pre.map (·.2))).px, .int .i64 (endA (sp0 v) (pre.map (·.2))).py]
 fn : At W n 144 #[.func (.func 79) #[.pointer (some ⟨g, 0, none⟩)] #[]]
 res : At W (n + 1) 99 #[.slice none 0 0]
 ok : At W (n + 2) 4 #[.bool false]
 times : (∀ y ∈ pre, good y = true) → ∃ x cap, At W (n + 3) 99 #[.slice x pre.length cap] ∧ W.ownsRow (n + 6) 136 3 (.slice x pre.length cap) pre.length (flatT (tmsL pre))
 hl : At W bl 59 #[vl]
 ht : At W bt 29 #[vt]
 hv : At W bv 64 #[.int .i64 v.hx, .int .i64 v.hy, .int .i64 v.cp, .int .i64 v.st, .int .i64 v.en]
 below : Below g w W
theorem TripI.old {w : World} {v : Vh} {vl vt : Value} {g bl bt bv n m : Nat} (hm : g ≤ m) : Old m (TripI w v vl vt g bl bt bv n) := by
 rintro pre A A' row h hg hr
 obtain ⟨o1, o2, hs⟩ := h.spot
 refine ⟨⟨o1, o2, At.oldCells hs hg hr⟩, At.oldCells h.fn hg hr, At.oldCells h.res hg hr, At.oldCells h.ok hg hr, fun hp => ?_, At.oldCells h.hl hg hr, At.oldCells h.ht hg hr, At.oldCells h.hv hg hr, h.below.grown hg (Nat.le_of_lt hs.inside) (fun k e => by have := (hr k e).1; omega)⟩
 obtain ⟨x, cap, h1, h2⟩ := h.times hp
 exact ⟨x, cap, At.oldCells h1 hg hr, owns_old h2 hg (fun r e => .inr (hr r e).2)⟩
theorem info_time : (Tryz.prog.info? 136).map (fun i => (i.zero, i.size, i.bytes)) = some (some (.agg #[.int .i64 0, .int .i64 0, .int .i64 0]), 3, 24) := by kernel_rfl
theorem good_last {pre : List (Sp × Vi)} {y : Sp × Vi} (h : ∀ z ∈ pre ++ [y], good z = true) : good y = true := h y (by simp)
theorem At.under {A A' : World} {g m : Nat} {t : TypeId} {cs : Array Value} {row : Option Nat} (h : At A g t cs) (hg : A.grownBy A' row) (hr : ∀ r, row = some r → m ≤ r) (hm : g < m) : At A' g t cs := (hg.block g h.inside (fun e => by have := hr g e.symm; omega)).trans h
theorem TripI.setRes {w : World} {v : Vh} {vl vt : Value} {g bl bt bv n : Nat} {pre : List (Sp × Vi)} {W : World} (h : TripI w v vl vt g bl bt bv n pre W) (hg : g < n) (hb : bl < n ∧ bt < n ∧ bv < n) (hw : w.heap.size = n) : TripI w v vl vt g bl bt bv n pre (W.setCell ⟨n + 1, 0, none⟩ (.slice none 0 0)) := by
 obtain ⟨o1, o2, hs⟩ := h.spot
 refine ⟨⟨o1, o2, hs.far (by omega) _ _⟩, h.fn.far (by omega) _ _, by simpa using h.res.put 0 (.slice none 0 0), h.ok.far (by omega) _ _, fun hp => ?_, h.hl.far (by omega) _ _, h.ht.far (by omega) _ _, h.hv.far (by omega) _ _, h.below.setCell (by simp; omega) _⟩
 obtain ⟨x, cap, h1, h2⟩ := h.times hp
 exact ⟨x, cap, h1.far (by omega) _ _, owns_far h2 (by omega) _ _⟩
theorem TripI.setOk {w : World} {v : Vh} {vl vt : Value} {g bl bt bv n : Nat} {pre : List (Sp × Vi)} {W : World} (h : TripI w v vl vt g bl bt bv n pre W) (hg : g < n) (hb : bl < n ∧ bt < n ∧ bv < n) (hw : w.heap.size = n) : TripI w v vl vt g bl bt bv n pre (W.setCell ⟨n + 2, 0, none⟩ (.bool false)) := by
 obtain ⟨o1, o2, hs⟩ := h.spot
 refine ⟨⟨o1, o2, hs.far (by omega) _ _⟩, h.fn.far (by omega) _ _, h.res.far (by omega) _ _, by simpa using h.ok.put 0 (.bool false), fun hp => ?_, h.hl.far (by omega) _ _, h.ht.far (by omega) _ _, h.hv.far (by omega) _ _, h.below.setCell (by simp; omega) _⟩
 obtain ⟨x, cap, h1, h2⟩ := h.times hp
 exact ⟨x, cap, h1.far (by omega) _ _, owns_far h2 (by omega) _ _⟩
structure TripH (w : World) (v : Vh) (vl vt : Value) (g bl bt bv n : Nat) (pre : List (Sp × Vi)) (W : World) : Prop where
 spot : ∃ o1 o2, At W g 138 #[.int .i64 o1, .int .i64 o2, .int .i64 (endA (sp0 v) (pre.map (·.2))).now, .int .i64 (endA (sp0 v) (pre.map (·.2))).px, .int .i64 (endA (sp0 v) (pre.map (·.2))).py]
 fn : At W n 144 #[.func (.func 79) #[.pointer (some ⟨g, 0, none⟩)] #[]]
 res : At W (n + 1) 99 #[.slice none 0 0]
 ok : At W (n + 2) 4 #[.bool false]
 hl : At W bl 59 #[vl]
 ht : At W bt 29 #[vt]
 hv : At W bv 64 #[.int .i64 v.hx, .int .i64 v.hy, .int .i64 v.cp, .int .i64 v.st, .int .i64 v.en]
 below : Below g w W
theorem went {w : World} {v : Vh} {vl vt : Value} {g bl bt bv n : Nat} {pre : List (Sp × Vi)} {y : Sp × Vi} {W W' : World} (x : Option Addr) (cap : Nat) {row : Option Nat} (h : TripH w v vl vt g bl bt bv n (pre ++ [y]) W) (hg : g < n) (hb : bl < n ∧ bt < n ∧ bv < n) (hw : w.heap.size = n) (hc : ∃ u, At W (n + 3) 99 #[u])
 (hgr : W.grownBy W' row) (hr : ∀ r, row = some r → n + 6 ≤ r) (hown : W'.ownsRow (n + 6) 136 3 (.slice x (pre.length + 1) cap) (pre.length + 1) (flatT (tmsL pre) ++ [.int .i64 (arV y.1 y.2), .int .i64 (beV y.1 y.2), .int .i64 (beV y.1 y.2 + y.2.sv)])) :
 TripI w v vl vt g bl bt bv n (pre ++ [y]) (W'.setCell ⟨n + 3, 0, none⟩ (.slice x (pre.length + 1) cap)) := by
 obtain ⟨o1, o2, hs⟩ := h.spot
 obtain ⟨u, hc⟩ := hc
 refine ⟨⟨o1, o2, (At.under hs hgr hr (by omega)).far (by omega) _ _⟩, (At.under h.fn hgr hr (by omega)).far (by omega) _ _, (At.under h.res hgr hr (by omega)).far (by omega) _ _, (At.under h.ok hgr hr (by omega)).far (by omega) _ _, fun hp => ⟨x, cap, ?_, ?_⟩, (At.under h.hl hgr hr (by omega)).far (by omega) _ _, (At.under h.ht hgr hr (by omega)).far (by omega) _ _, (At.under h.hv hgr hr (by omega)).far (by omega) _ _,
  (h.below.grown hgr (Nat.le_of_lt hs.inside) (fun k e => by have := hr k e; omega)).setCell (by simp; omega) _⟩
 · have := (At.under hc hgr hr (by omega)).put 0 (.slice x (pre.length + 1) cap)
   simpa using this
 · have := owns_far hown (b := n + 3) (by omega) 0 (.slice x (pre.length + 1) cap)
   rw [tmsL_snoc, flatT_snoc]
   simpa [tmV] using this
def tripL (v : Vh) (l : List (Int × Int)) (t : List Rq) : List (Sp × Vi) := stepsL (sp0 v) (visL t l ++ [homeV v])
def Mild (v : Vh) (l : List (Int × Int)) (t : List Rq) : Prop := ∀ (pre rest : List (Sp × Vi)) (y : Sp × Vi), tripL v l t = pre ++ y :: rest → (∀ z ∈ pre, good z = true) → 0 ≤ arV y.1 y.2 ∧ arV y.1 y.2 ≤ 1000000000 ∧ 0 ≤ beV y.1 y.2 + y.2.sv ∧ beV y.1 y.2 + y.2.sv ≤ 1000000000
set_option maxRecDepth 100000 in
set_option maxHeartbeats 4000000 in
theorem trip_any (v : Vh) (l : List (Int × Int)) (t : List Rq) (hl : l.length ≤ 1000000) (vl vt : Value) (g bl bt bv : Nat) (w : World) (hmild : Mild v l t) (hP : At w g 138 #[.int .i64 0, .int .i64 0, .int .i64 v.st, .int .i64 v.hx, .int .i64 v.hy])
 (hV : VisAt g bl bt bv vl vt v l t w) (hne : bl ≠ g ∧ bt ≠ g ∧ bv ≠ g) :
 Calls Tryz.prog 77 #[.func (.func 104) #[] #[.pointer (some ⟨bl, 0, none⟩), .pointer (some ⟨bt, 0, none⟩), .pointer (some ⟨bv, 0, none⟩)], .func (.func 79) #[.pointer (some ⟨g, 0, none⟩)] #[]] w fun e w' =>
  (∃ u, e = .returned (.tuple #[u, .bool ((tripL v l t).all good)]) ∧ ((tripL v l t).all good = true → Tms w'.heap.size w' u (tmsL (tripL v l t)))) ∧ Below g w w' := by
 have hgw := hP.inside
 have hxs : (tripL v l t).map (·.2) = visL t l ++ [homeV v] := stepsL_vis _ _
 have hlen : (tripL v l t).length ≤ 1000001 := by unfold tripL; rw [stepsL_length]; simp [visL]; omega
 have hstep : ∀ (pre rest : List (Sp × Vi)) (y : Sp × Vi), tripL v l t = pre ++ y :: rest → y.1 = endA (sp0 v) (pre.map (·.2)) := fun pre rest y e => stepsL_get e
 unfold Mild at hmild
 obtain ⟨xs, hX⟩ : ∃ xs, tripL v l t = xs := ⟨_, rfl⟩
 rw [hX] at hxs hlen hstep hmild ⊢
 clear hX
 obtain ⟨i0, hi, hz0, hz1, hz2⟩ := info_parts info_time
 obtain ⟨n, hn⟩ : ∃ n, w.heap.size = n := ⟨_, rfl⟩
 obtain ⟨w1, hw1⟩ : ∃ w1, (((w.alloc (.cells #[.func (.func 79) #[.pointer (some ⟨g, 0, none⟩)] #[]] 144)).alloc (.cells #[.slice none 0 0] 99)).alloc (.cells #[.bool false] 4)).alloc (.cells #[.slice none 0 0] 99) = w1 := ⟨_, rfl⟩
 have hs1 : w1.heap.size = n + 4 := by rw [← hw1, ← hn]; simp
 have hI0 : TripI w v vl vt g bl bt bv n [] w1 := by
  rw [← hw1]
  refine ⟨⟨0, 0, (((hP.alloc _).alloc _).alloc _).alloc _⟩, (((At.new_ _ _ _ hn.symm).alloc _).alloc _).alloc _, ((At.new_ _ _ _ (by simp [hn])).alloc _).alloc _, (At.new_ _ _ _ (by simp [hn])).alloc _, fun _ => ⟨none, 0, At.new_ _ _ _ (by simp [hn]), World.ownsRow_nil _ _ _ _⟩,
   (((hV.hl.alloc _).alloc _).alloc _).alloc _, (((hV.ht.alloc _).alloc _).alloc _).alloc _, (((hV.hv.alloc _).alloc _).alloc _).alloc _, ((((Below.refl _ _).alloc (by omega) _).alloc (by simp; omega) _).alloc (by simp; omega) _).alloc (by simp; omega) _⟩
 have hrun := visits_runs v l t vl vt bl bt bv g (w1.heap.size + 2) (by omega) xs hxs (TripI w v vl vt g bl bt bv n) (fun p A hA => ⟨hA.hl, hA.ht, hA.hv, hV.row.keep hA.below (Nat.le_refl _), hV.rqs.keep hA.below (Nat.le_refl _)⟩)
 have hlV := hV.hl.inside
 have htV := hV.ht.inside
 have hvV := hV.hv.inside
 have hgn : g < n := by omega
 have hbn : bl < n ∧ bt < n ∧ bv < n := by omega
 have hI0' := Lib.hid hI0
 have hrun' := Lib.hid hrun
 have hw1' := Lib.hid hw1
 have hstep' := Lib.hid hstep
 have hmild' := Lib.hid hmild
 have hlen' := Lib.hid hlen
 clear hI0 hrun hw1 hstep hmild hlen hV hP hxs hgw hlV htV hvV
 refine (callsIn_wide (n := 3)).1 ?_
 refine callsIn_of_wp_marks Tryz.func77 rfl trivial ?_ rfl
 simp only [Tryz.ntmps77, List.size_toArray, List.length_cons, List.length_nil, Nat.reduceAdd, Nat.reduceSub, Array.replicate_succ, Array.replicate_zero, List.push_toArray, List.append_toArray, List.nil_append, List.cons_append]
 gi_wp2_with fail
 rw [hw1'.out]
 refine rangesRound2 (gf := 104) (fst := #[]) (lb := #[.pointer (some ⟨bl, 0, none⟩), .pointer (some ⟨bt, 0, none⟩), .pointer (some ⟨bv, 0, none⟩)]) rfl (enters_of Tryz.func104 (by kernel_rfl) rfl) (encs := encV) (good := good) (xs := xs) (fun _ => rfl)
  (TripI w v vl vt g bl bt bv n) (TripI.old (by omega)) hI0'.out hrun'.out ?round ?done ?stop
 case round =>
  rintro l2 pre y Wr ⟨rest, hx⟩ hW2 - hg
  have hy1 := hstep'.out pre rest y hx
  obtain ⟨hm1, hm2, hm3, hm4⟩ := hmild'.out pre rest y hx hg
  have hpl : pre.length ≤ 1000001 := by have := hlen'.out; rw [hx] at this; simp at this; omega
  dsimp only [encV]
  gi_wp2
  refine ⟨World.grownBy_alloc _ _ _, fun Vr hVs hVb hI2 => ?_⟩
  have hX : At Vr Wr.heap.size 173 #[.int .i64 y.2.px, .int .i64 y.2.py, .int .i64 y.2.we, .int .i64 y.2.wl, .int .i64 y.2.sv] := (hVb _ (by omega)).trans (At.new Wr _ _)
  have hVs' : n + 6 < Vr.heap.size := by have := hX.inside; omega
  have x0 := hX.cell 0
  have x1 := hX.cell 1
  have x2 := hX.cell 2
  have x3 := hX.cell 3
  have x4 := hX.cell 4
  have f0 := hI2.fn.cell 0
  simp at x0 x1 x2 x3 x4 f0
  obtain ⟨o1, o2, hsp⟩ := hI2.spot
  rw [← hy1] at hsp
  have hgo := goOn_any y.1.now y.1.px y.1.py o1 o2 y.2.px y.2.py y.2.we y.2.wl y.2.sv _ (arV y.1 y.2) (beV y.1 y.2) (good y) g Vr hsp rfl rfl rfl rfl hm1 hm2 hm3 hm4
  have hI2' := Lib.hid hI2
  have hg' := Lib.hid hg
  have hy1' := Lib.hid hy1
  clear hVb hVs hX hsp hy1 hg hx hI2 hmild' hstep' hlen' hI0' hrun' hw1' hm1 hm2 hm3 hm4
  gi_wp2_with fail
  refine ⟨trivial, ?_⟩
  refine (callsIn_wide.2 hgo).mono ?_
  clear hgo x0 x1 x2 x3 x4 f0
  rintro e w3 ⟨rfl, hsp3, hG⟩
  have hs3 : n + 6 < w3.heap.size := Nat.lt_of_lt_of_le hVs' hG.size
  have hs31 : n + 1 < w3.heap.size := by omega
  have hs32 : n + 2 < w3.heap.size := by omega
  have hs33 : n + 3 < w3.heap.size := by omega
  have hH3 : Held w1.heap.size Vr w3 := Held.grown hG (by omega) (fun r e => by cases e; omega)
  have hE3 : endA (sp0 v) ((pre ++ [y]).map (·.2)) = goV y.1 y.2 := by rw [List.map_append, List.map_singleton, endA_snoc, hy1'.out]
  obtain ⟨x, cap, htc, htO⟩ := hI2'.out.times hg'.out
  have htc3 : At w3 (n + 3) 99 #[.slice x pre.length cap] := At.grownOff htc hG (by omega)
  have htO3 := owns_old htO hG (fun r e => .inl (by cases e; omega))
  cases hgood : good y
  · have hI3 : TripI w v vl vt g bl bt bv n (pre ++ [y]) w3 := by
     refine ⟨⟨_, _, by rw [hE3]; exact hsp3⟩, At.grownOff hI2'.out.fn hG (by omega), At.grownOff hI2'.out.res hG (by omega), At.grownOff hI2'.out.ok hG (by omega), fun hp => (by have := good_last hp; rw [hgood] at this; cases this), At.grownOff hI2'.out.hl hG (by omega), At.grownOff hI2'.out.ht hG (by omega), At.grownOff hI2'.out.hv hG (by omega),
      hI2'.out.below.grown hG (by omega) (fun k e => by cases e; exact Nat.le_refl _)⟩
    have r0 := hI3.res.cell 0
    have rf := hI3.res.free 0
    have k0 := hI3.ok.cell 0
    have kf := hI3.ok.free 0
    simp at r0 k0
    have hI3' := Lib.hid hI3
    clear hI3 hsp3 hG htc htO htc3 htO3 hI2'
    gi_wp2
    refine ⟨hgood, ?_, ?_⟩
    · exact (TripI.old (m := n) (by omega)).new (TripI.setOk (TripI.setRes hI3'.out hgn hbn hn) hgn hbn hn) _
    · exact (hH3.trans ((Held.setCell _ (by rw [hs1]; omega) (by rw [hs1]; omega) _).trans (Held.setCell _ (by rw [hs1]; omega) (by rw [hs1]; omega) _))).trans (Held.alloc _ _ (by simp; omega))
  · have hI3 : ∀ (x : Option Addr) (cap : Nat) (W : World) (row : Option Nat), w3.grownBy W row → (∀ r, row = some r → n + 6 ≤ r) → W.ownsRow (n + 6) 136 3 (.slice x (pre.length + 1) cap) (pre.length + 1) (flatT (tmsL pre) ++ [.int .i64 (arV y.1 y.2), .int .i64 (beV y.1 y.2), .int .i64 (beV y.1 y.2 + y.2.sv)]) →
     TripI w v vl vt g bl bt bv n (pre ++ [y]) (W.setCell ⟨n + 3, 0, none⟩ (.slice x (pre.length + 1) cap)) := fun x cap W row hgr hr ho => by
     obtain ⟨o1, o2, _⟩ := hI2'.out.spot
     refine went _ _ ?_ hgn hbn hn ⟨_, htc3⟩ hgr hr ho
     exact ⟨⟨_, _, by rw [hE3]; exact hsp3⟩, At.grownOff hI2'.out.fn hG (by omega), At.grownOff hI2'.out.res hG (by omega), At.grownOff hI2'.out.ok hG (by omega), At.grownOff hI2'.out.hl hG (by omega), At.grownOff hI2'.out.ht hG (by omega), At.grownOff hI2'.out.hv hG (by omega),
      hI2'.out.below.grown hG (by omega) (fun k e => by cases e; exact Nat.le_refl _)⟩
    have r0 := htc3.cell 0
    have rf := htc3.free 0
    simp at r0
    have hI3' := Lib.hid hI3
    have htO3' := Lib.hid htO3
    have htc3' := Lib.hid htc3
    clear hI3 hsp3 hG htc htO htc3 htO3 hI2'
    gi_wp2_with (gi_at_builtin; refine wpListIn_append_own _ rfl _ _ 99 rfl (n + 6) 136 i0 (.agg #[.int .i64 0, .int .i64 0, .int .i64 0]) 3 24 Tryz.underlying99 hi hz0 hz1 hz2 rfl (by decide) _ _ _ rfl ((htO3'.out.alloc _).alloc _) ⟨w3.heap.size + 1, 0, none⟩ 1 1 [.int .i64 (arV y.1 y.2), .int .i64 (beV y.1 y.2), .int .i64 (beV y.1 y.2 + y.2.sv)] rfl rfl (World.news_of_block (cs := #[.int .i64 (arV y.1 y.2), .int .i64 (beV y.1 y.2), .int .i64 (beV y.1 y.2 + y.2.sv)]) (t := 136) (fr := (0, 0)) (by simpa using heap_alloc_new (w3.alloc _) _)) (by simp [Value.oneCell']) (by unfold maxLen; omega) (by omega) (by simp; omega) ?_; intro v7 w7 hown7 hgrow7 hnil7; obtain ⟨x7, c7, rfl, _, _⟩ := owns_slice hown7; have hr7 := owns_row htO3'.out; have ht7 := At.under ((htc3'.out.alloc _).alloc _) hgrow7 hr7 (m := n + 6) (by omega); have c7 := ht7.cell 0; have f7 := ht7.free 0; simp at c7)
    refine ⟨hgood, ?_, ?_⟩
    · have hG7 := (((World.grownBy_alloc w3 _ _).trans (World.grownBy_alloc _ _ _)).trans hgrow7)
      exact hI3'.out _ _ _ _ hG7 hr7 hown7
    · refine hH3.trans (Held.trans ?_ (Held.setCell _ (by rw [hs1]; omega) (by rw [hs1]; omega) _))
      have hG7 := (((World.grownBy_alloc w3 _ _).trans (World.grownBy_alloc _ _ _)).trans hgrow7)
      exact Held.grown hG7 (by omega) (fun r e => by have := hr7 r e; omega)
 case done =>
  rintro Wr hW2 hI2 hall hD
  have hX2 : Hid (xs.all good = true) := Lib.hid (List.all_eq_true.2 hall)
  obtain ⟨x, cap, htc, htO⟩ := hI2.times hall
  have hbel := hI2.below
  have r0 := hI2.res.cell 0
  have rf := hI2.res.free 0
  have k0 := hI2.ok.cell 0
  have kf := hI2.ok.free 0
  have t0 := htc.cell 0
  simp at r0 k0 t0
  have hs2 : n + 6 ≤ Wr.heap.size := by omega
  have hs31 : n + 1 < Wr.heap.size := by omega
  have hs32 : n + 2 < Wr.heap.size := by omega
  have hres := hI2.res
  have hok := hI2.ok
  clear hI2 hall
  gi_wp2
  obtain ⟨W', hW'⟩ : ∃ W', (Wr.setCell ⟨n + 1, 0, none⟩ (.slice x xs.length cap)).setCell ⟨n + 2, 0, none⟩ (.bool true) = W' := ⟨_, rfl⟩
  have hD2 : W'.heap[w1.heap.size]? = some (.deferred (some [])) := by
   rw [← hW']
   exact (Below.heap_setCell _ _ _ _ (by show w1.heap.size ≠ n + 2; omega)).trans ((Below.heap_setCell _ _ _ _ (by show w1.heap.size ≠ n + 1; omega)).trans hD)
  have hr3 : At W' (n + 1) 99 #[.slice x xs.length cap] := by rw [← hW']; simpa using (hres.put 0 (.slice x xs.length cap)).far (by omega) _ _
  have hk3 : At W' (n + 2) 4 #[.bool true] := by rw [← hW']; simpa using (hok.far (b := n + 1) (by omega) 0 (.slice x xs.length cap)).put 0 (.bool true)
  have hO3 : W'.ownsRow (n + 6) 136 3 (.slice x xs.length cap) xs.length (flatT (tmsL xs)) := by rw [← hW']; exact owns_far (owns_far htO (by omega) _ _) (by omega) _ _
  have hB3 : Below g w W' := by rw [← hW']; exact (hbel.setCell (by simp; omega) _).setCell (by simp; omega) _
  rw [hW']
  have hr4 : At (W'.putObj w1.heap.size (.deferred none)) (n + 1) 99 #[.slice x xs.length cap] := (World.putObj_heap_other (by omega)).trans hr3
  have hk4 : At (W'.putObj w1.heap.size (.deferred none)) (n + 2) 4 #[.bool true] := (World.putObj_heap_other (by omega)).trans hk3
  have hO4 := owns_old hO3 (grownBy_putObj' W' w1.heap.size (.deferred none)) (fun r e => .inr (by cases e; exact ⟨_, hD2, rfl⟩))
  have hB4 : Below g w (W'.putObj w1.heap.size (.deferred none)) := hB3.grown (grownBy_putObj' _ _ _) (by have := hB3.size; omega) (fun r e => by cases e; omega)
  have hc1 := hr4.cell 0
  have hc2 := hk4.cell 0
  simp at hc1 hc2
  refine ⟨by simp, .inl ⟨_, _, rfl, run_takeDeferred hD2, ?_⟩⟩
  refine ⟨.tuple #[.slice x xs.length cap, .bool true], by simp [results, Tryz.results77, go_sem, hc1, hc2], ⟨_, by rw [hX2.out], fun _ => ?_⟩, hB4⟩
  exact Tms.of_owns hO4 (by simp [tmsL]) (Nat.le_refl _)
 case stop =>
  rintro Wr hW2 hI2 hbad hD
  have hX2 : Hid (xs.all good = false) := Lib.hid (by cases h : xs.all good; rfl; exact absurd (List.all_eq_true.1 h) hbad)
  have hr4 : At (Wr.putObj w1.heap.size (.deferred none)) (n + 1) 99 #[.slice none 0 0] := (World.putObj_heap_other (by omega)).trans hI2.res
  have hk4 : At (Wr.putObj w1.heap.size (.deferred none)) (n + 2) 4 #[.bool false] := (World.putObj_heap_other (by omega)).trans hI2.ok
  have hB4 : Below g w (Wr.putObj w1.heap.size (.deferred none)) := hI2.below.grown (grownBy_putObj' _ _ _) (by have := hI2.below.size; omega) (fun r e => by cases e; omega)
  have hc1 := hr4.cell 0
  have hc2 := hk4.cell 0
  simp at hc1 hc2
  clear hI2 hbad
  gi_wp2
  refine ⟨by simp, .inl ⟨_, _, rfl, run_takeDeferred hD, ?_⟩⟩
  exact ⟨.tuple #[.slice none 0 0, .bool false], by simp [results, Tryz.results77, go_sem, hc1, hc2], ⟨_, by rw [hX2.out], fun h => by rw [hX2.out] at h; cases h⟩, hB4⟩
end Go.Proofs.YtlbghdiebjldjaaGreatDoor.When

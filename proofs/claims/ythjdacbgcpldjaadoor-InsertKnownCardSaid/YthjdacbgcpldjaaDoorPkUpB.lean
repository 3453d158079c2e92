import Derived.Test.YthjdacbgcpldjaaDoorPkWhenTrip
import Derived.Test.YthjdacbgcpldjaaDoorPkWhenGo
import Derived.WalkMore
import Derived.Test.YthjdacbgcpldjaaDoorPkUp
import Derived.Sort.CutIn

/-
  Package insert's iterator over pairs of places, and the document's row of them.
-/
namespace Go.Proofs.YthjdacbgcpldjaaDoor.Ins
open Go.RowKit Go.Shelf Go.Proofs.YthjdacbgcpldjaaDoor.Mem Go.Proofs.YthjdacbgcpldjaaDoor.Route Go.Proofs.YthjdacbgcpldjaaDoor.When Go.Proofs.YthjdacbgcpldjaaDoor.Up
set_option linter.unusedVariables false

attribute [local go_sem] Oper.semAt_some

def rowL (N i j : Nat) : List (Int × Int) := (List.range' j (N + 1 - j)).map fun (k : Nat) => ((i : Int), (k : Int))
def fromL (N i : Nat) : List (Int × Int) := (List.range' i (N + 1 - i)).flatMap fun a => rowL N a a
def pairsL (n : Int) : List (Int × Int) := if 16 < n then [] else if n < 0 then [] else fromL n.toNat 0
theorem rowL_cons {N i j : Nat} (h : j ≤ N) : rowL N i j = ((i : Int), (j : Int)) :: rowL N i (j + 1) := by
  unfold rowL
  rw [show N + 1 - j = (N + 1 - (j + 1)) + 1 by omega, List.range'_succ]
  rfl
theorem rowL_nil {N i j : Nat} (h : N < j) : rowL N i j = [] := by
  unfold rowL
  rw [show N + 1 - j = 0 by omega]
  rfl
theorem fromL_cons {N i : Nat} (h : i ≤ N) : fromL N i = rowL N i i ++ fromL N (i + 1) := by
  unfold fromL
  rw [show N + 1 - i = (N + 1 - (i + 1)) + 1 by omega, List.range'_succ]
  rfl
theorem fromL_nil {N i : Nat} (h : N < i) : fromL N i = [] := by
  unfold fromL
  rw [show N + 1 - i = 0 by omega]
  rfl
theorem pairsL_in {N : Nat} (h : N ≤ 16) : pairsL N = fromL N 0 := by
  unfold pairsL
  rw [if_neg (by omega), if_neg (by omega), Int.toNat_natCast]
theorem pairsL_big {n : Int} (h : 16 < n) : pairsL n = [] := by unfold pairsL; rw [if_pos h]
theorem pairsL_neg {n : Int} (h : n < 0) : pairsL n = [] := by unfold pairsL; rw [if_neg (by omega), if_pos h]
theorem pairsL_len (n : Int) : (pairsL n).length ≤ 153 := by
  by_cases h1 : 16 < n
  · rw [pairsL_big h1]; simp
  by_cases h2 : n < 0
  · rw [pairsL_neg h2]; simp
  obtain ⟨N, rfl⟩ : ∃ N : Nat, n = N := ⟨n.toNat, by omega⟩
  have hN : N ≤ 16 := by omega
  rw [pairsL_in hN]
  have : ∀ N, N ≤ 16 → (fromL N 0).length ≤ 153 := by decide +kernel
  exact this N hN

def encP (y : Int × Int) : Array Value := #[.int .i64 y.1, .int .i64 y.2]

theorem Places_any (n : Int) (w : World) :
    Calls Tryd.prog 25 #[.int .i64 n] w fun e w' => e = .returned (.func (.func 47) #[] #[.pointer (some ⟨w.heap.size, 0, none⟩)]) ∧ w.alloc (.cells #[.int .i64 n] 3) = w' := by
  go_enter Tryd.func25, Tryd.ntmps25
  go_wp2
  go_ret
  exact ⟨rfl, rfl⟩

/-- Two pairs, compared. -/
theorem part0 (x y : Value) (w : World) : Sem.run Tryd.prog (part 3 #[x, y] 0) w = .ok x w := by kernel_rfl
theorem part1 (x y : Value) (w : World) : Sem.run Tryd.prog (part 3 #[x, y] 1) w = .ok y w := by kernel_rfl
theorem eqI (a c : Int) (w : World) : Sem.run Tryd.prog (Op.equalIn 9999 3 (.int .i64 a) (.int .i64 c)) w = .ok (a == c) w := by
  unfold Op.equalIn
  simp [go_sem]
theorem eq2 (a b c d : Int) (w : World) : Sem.run Tryd.prog (Op.equalIn 10000 41 (Value.agg #[.int .i64 a, .int .i64 b]) (Value.agg #[.int .i64 c, .int .i64 d])) w = .ok (decide (a = c) && decide (b = d)) w := by
  unfold Op.equalIn
  simp
  rw [show List.range' 0 2 = [0, 1] from rfl]
  by_cases h1 : a = c <;> by_cases h2 : b = d <;> simp [part0, part1, eqI, Result.andThen, h1, h2]
theorem eq2_same (a b : Int) (w : World) : Sem.run Tryd.prog (Op.equalIn 10000 41 (Value.agg #[.int .i64 a, .int .i64 b]) (Value.agg #[.int .i64 a, .int .i64 b])) w = .ok true w := by rw [eq2]; simp

/-- The iterator is not nil. -/
theorem nil_places (n : Nat) (w : World) : Sem.run Tryd.prog (binOp BinOp.eql 72 (Value.func (Fn.func 47) #[] #[.pointer (some ⟨n, 0, none⟩)]) Value.nilFunc) w = .ok (.bool false) w := by kernel_rfl

set_option maxRecDepth 100000 in
set_option maxHeartbeats 4000000 in
theorem places_runs (n : Int) (bn B : Nat) (good : Int × Int → Bool) (I : List (Int × Int) → World → Prop) (hI : ∀ p A, I p A → At A bn 3 #[.int .i64 n]) :
    Runs2 Tryd.prog 47 #[] #[.pointer (some ⟨bn, 0, none⟩)] encP good (pairsL n) B I := by
  intro ll J W hWB h0 hJ hJI hY
  refine callsIn_of_wp Tryd.func47 rfl trivial ?_ rfl
  simp only [Tryd.ntmps47, List.size_toArray, List.length_cons, List.length_nil, Nat.reduceAdd, Nat.reduceSub, Array.replicate_succ, Array.replicate_zero, List.push_toArray, List.append_toArray, List.nil_append, List.cons_append]
  have hA0 := hI _ _ (hJI _ _ h0)
  have n0 := hA0.cell 0
  have hbn := hA0.inside
  simp at n0
  have hWs : B ≤ W.heap.size := by omega
  refine wpIn_wide.2 (wp_scope_straight ((wpIn_wide (n := 2)).1 ?_))
  have hI' := Lib.hid hI
  have hY' := Lib.hid hY
  clear hI hY hA0
  by_cases h1 : 16 < n
  · have he := Lib.hid (pairsL_big h1)
    gi_wp2
    simp only [Exit.noGoto_ret]
    refine bodyPost_ret (results_none rfl _ _ _) rfl ?_
    refine ⟨⟨_, rfl⟩, ?_⟩
    rw [he.out]
    exact h0
  by_cases h2 : n < 0
  · have he := Lib.hid (pairsL_neg h2)
    gi_wp2_with fail
    apply wpIn_label
    gi_wp2
    gi_loopw [3] (fun i wr => i = .int .i64 0 ∧ wr = W) (fun i _ => 1 - (intOf i).toNat)
    case atStart => exact ⟨rfl, rfl⟩
    case round =>
      obtain ⟨rfl, rfl⟩ := hrel
      gi_wp2
      simp only [Exit.noGoto_normal]
      go_end0
      refine ⟨⟨_, rfl⟩, ?_⟩
      rw [he.out]
      exact h0
  obtain ⟨N, rfl⟩ : ∃ N : Nat, n = N := ⟨n.toNat, by omega⟩
  have hN : N ≤ 16 := by omega
  obtain ⟨xs, hxs⟩ : ∃ xs, pairsL N = xs := ⟨_, rfl⟩
  have hxs' : Hid (xs = fromL N 0) := Lib.hid (by rw [← hxs, pairsL_in hN])
  rw [hxs] at hY' ⊢
  clear hxs
  gi_wp2_with fail
  apply wpIn_label
  gi_wp2
  gi_loopw [3] (fun i wr => ∃ (pre : List (Int × Int)) (k : Nat), i = .int .i64 k ∧ k ≤ N + 1 ∧ Hid (xs = pre ++ fromL N k) ∧ Hid (∀ y ∈ pre, good y = true) ∧ J pre wr ∧ B ≤ wr.heap.size)
    (fun i _ => N + 1 - (intOf i).toNat)
  case atStart => exact ⟨[], 0, rfl, Nat.zero_le _, hxs', Lib.hid (fun y hy => by cases hy), h0, hWs⟩
  case round =>
    obtain ⟨pre, k, rfl, hk, hx, hg, hj, hs⟩ := hrel
    clear h0
    have hAr := hI'.out _ _ (hJI _ _ hj)
    have n0 := hAr.cell 0
    have hbr := hAr.inside
    simp at n0
    clear hAr
    by_cases hlt : k ≤ N
    · have hx2 : Hid (xs = pre ++ (rowL N k k ++ fromL N (k + 1))) := Lib.hid (by rw [hx.out, fromL_cons hlt])
      clear hx
      obtain ⟨wo, hwo⟩ : ∃ wo, wo = wr := ⟨_, rfl⟩
      subst hwo
      have hkNi : (k : Int) ≤ (N : Int) := by omega
      gi_wp2
      gi_loopw [4] (fun j wr => ∃ (pre : List (Int × Int)) (m : Nat), j = .int .i64 m ∧ m ≤ N + 1 ∧ Hid (xs = pre ++ (rowL N k m ++ fromL N (k + 1))) ∧ Hid (∀ y ∈ pre, good y = true) ∧ J pre wr ∧ B ≤ wr.heap.size)
        (fun j _ => N + 1 - (intOf j).toNat)
      case atStart => exact ⟨pre, k, rfl, by omega, hx2, hg, hj, hs⟩
      case round =>
        clear hj hx2 hg hs n0 hbr pre
        obtain ⟨pre, m, rfl, hm, hx, hg, hj, hs⟩ := hrel
        have hAr := hI'.out _ _ (hJI _ _ hj)
        have n0 := hAr.cell 0
        have hbr := hAr.inside
        simp at n0
        clear hAr
        by_cases hlm : m ≤ N
        · have hx2 : Hid (xs = pre ++ (((k : Int), (m : Int)) :: (rowL N k (m + 1) ++ fromL N (k + 1)))) := Lib.hid (by rw [hx.out, rowL_cons hlm]; rfl)
          obtain ⟨fn, tmps, assign, body, hyy, hR⟩ := hY'.out 1 pre ((k : Int), (m : Int)) wr ⟨_, hx2.out⟩ hj hg.out hs
          dsimp only [encP] at hyy
          have hlmi : (m : Int) ≤ (N : Int) := by omega
          clear hx hj
          gi_wp2_with fail
          refine hR.mono ?_
          clear hR hyy
          rintro e w4 ⟨rfl, hj4, hk4⟩
          have hs4 : B ≤ w4.heap.size := Nat.le_trans hs hk4
          clear hk4
          cases hgood : good ((k : Int), (m : Int))
          · gi_wp2
            simp only [Exit.noGoto_normal]
            go_end0
            refine ⟨⟨_, rfl⟩, ?_⟩
            rw [hx2.out, upTo_append hg.out, upTo_bad hgood]
            exact hj4
          · have hgg := Lib.hid (good_snoc hg.out hgood)
            clear hgood
            gi_wp2
            go_roundw
            case rel => exact ⟨pre ++ [((k : Int), (m : Int))], m + 1, by go_num, by omega, Lib.hid (by rw [hx2.out, List.append_assoc]; rfl), hgg, hj4, hs4⟩
            case measure => simp [intOf]; omega
        · obtain rfl : m = N + 1 := by omega
          have hx2 : Hid (xs = pre ++ fromL N (k + 1)) := Lib.hid (by rw [hx.out, rowL_nil (Nat.lt_succ_self _)]; rfl)
          clear hx
          gi_wp2
          go_roundw
          case rel => exact ⟨pre, k + 1, by go_num, by omega, hx2, hg, hj, hs⟩
          case measure => simp [intOf]; omega
    · obtain rfl : k = N + 1 := by omega
      have hx2 : Hid (xs = pre) := Lib.hid (by rw [hx.out, fromL_nil (Nat.lt_succ_self _), List.append_nil])
      clear hx
      gi_wp2
      simp only [Exit.noGoto_normal]
      go_end0
      refine ⟨⟨_, rfl⟩, ?_⟩
      rw [hx2.out, upTo_all hg.out]
      exact hj

end Go.Proofs.YthjdacbgcpldjaaDoor.Ins

/-
  A range over a function whose body leaves by a break at the first thing that is not good. Nothing here speaks of a program.
-/
namespace Go.Proofs.YthjdacbgcpldjaaDoor.Up
open Go.RowKit
set_option linter.unusedVariables false

/-- How the body of a round is left: off its end at what is good, by a break at what is not. -/
def upPostB (eid : Nat) (good : Bool) (R : World → Prop) : Exit → Act → World → Prop
  | .normal, _, w => good = true ∧ R w
  | .exit i, _, w => eid = i ∧ good = false ∧ R w
  | _, _, _ => False

/-- How a round goes on behind the assignment to the loop's variables. -/
def GoOnB {α : Type} (eid : Nat) (P : Program) (l : Nat) (body : Code) (n : Nat) (I : List α → World → Prop) (good : α → Bool) (pre : List α) (x : α) (W : World) (a' : Act) (Wa : World) : Prop :=
  W.grownBy Wa none ∧ ∀ V, V.heap.size = Wa.heap.size → (∀ k, k ≠ n + 1 → V.heap[k]? = Wa.heap[k]?) → I pre V →
    body.wpIn (Fence.wide.inRound l) 1 P (upPostB eid (good x) fun W' => I (pre ++ [x]) W' ∧ Held n V W') a' V

set_option maxHeartbeats 1000000 in
theorem rangesRoundB {α : Type} (eid : Nat) {P : Program} {g : Operand} {ps : Array Tmp} {assign body : Code} {Q : Exit → Act → World → Prop} {a : Act} {w : World}
    {gf : Nat} {fst lb : Array Value} (hg : a.eval g = .func (.func gf) fst lb) (eg : ∀ args w, (callFunc gf args).run P w = .ok (.enter gf args) w)
    {encs : α → Array Value} {good : α → Bool} {xs : List α} (hps : ∀ x, (encs x).size = ps.size) (I : List α → World → Prop) (hI : Old w.heap.size I) (h0 : I [] w) (hseq : Runs2 P gf fst lb encs good xs (w.heap.size + 2) I)
    (hround : ∀ (l : Nat) (pre : List α) (x : α) (W : World), (∃ rest, xs = pre ++ x :: rest) → w.heap.size + 2 ≤ W.heap.size → I pre W → (∀ y ∈ pre, good y = true) →
      assign.wpIn (Fence.wide.inRound l) 1 P (Exit.then (GoOnB eid P l body w.heap.size I good pre x W) (fun _ _ _ => False)) { tmps := (ps.zip (encs x)).foldl (fun t (p, v) => t.setIfInBounds p v) a.tmps, defers := [] } W)
    (hdone : ∀ (W : World), w.heap.size + 2 ≤ W.heap.size → I xs W → (∀ y ∈ xs, good y = true) → W.heap[w.heap.size]? = some (.deferred (some [])) → Q .normal { a with defers := { target := .collected w.heap.size, args := #[] } :: a.defers } W)
    (hstop : ∀ (W : World), w.heap.size + 2 ≤ W.heap.size → I (upTo good xs) W → ¬ (∀ y ∈ xs, good y = true) → W.heap[w.heap.size]? = some (.deferred (some [])) → (Code.exit eid).wpIn Fence.wide 3 P Q { a with defers := { target := .collected w.heap.size, args := #[] } :: a.defers } W) :
    (Code.rangeFunc g ps assign body).wpIn Fence.wide 3 P Q a w := by
  refine wpIn_rangeFunc fun fn hfn => ?_
  let rec_ : LoopState → Option Code → Loop := fun st pe => { state := st, pending := pe, fn, tmps := a.tmps, params := ps, assign, body, defers := w.heap.size }
  let W1 : World := (w.alloc (.deferred (some []))).alloc (.loop (rec_ .ready none))
  have hs1 : W1.heap.size = w.heap.size + 2 := by simp [W1]
  have hL : W1.heap[w.heap.size + 1]? = some (.loop (rec_ .ready none)) := by
    have h := World.alloc_heap_new (w.alloc (.deferred (some []))) (.loop (rec_ .ready none))
    rwa [World.size_alloc] at h
  have hD : W1.heap[w.heap.size]? = some (.deferred (some [])) := (Below.heap_alloc _ _ _ (by simp)).trans (World.alloc_heap_new w _)
  have hI1 : I [] W1 := hI.new (hI.new h0 _) _
  let st : List α → LoopState × Option Code := fun pre => if ∀ y ∈ pre, good y = true then (.ready, none) else (.done, some (.exit eid))
  let J : List α → World → Prop := fun pre W => I pre W ∧ W.heap[w.heap.size + 1]? = some (.loop (rec_ (st pre).1 (st pre).2)) ∧ W.heap[w.heap.size]? = some (.deferred (some [])) ∧ w.heap.size + 2 ≤ W.heap.size
  have hst0 : st [] = (.ready, none) := if_pos (fun y hy => by cases hy)
  have hst1 : ∀ {pre : List α}, (∀ y ∈ pre, good y = true) → st pre = (.ready, none) := fun h => if_pos h
  have hst2 : ∀ {pre : List α} {x : α}, good x = false → st (pre ++ [x]) = (.done, some (.exit eid)) := fun {pre x} h => if_neg (fun hh => by have := hh x (by simp); rw [h] at this; cases this)
  refine ⟨w.heap.size + 1, [{ target := .collected w.heap.size, args := #[] }], W1, { target := .fn (.func gf) lb, args := fst ++ #[.func (.yield (w.heap.size + 1)) #[] #[]] }, W1, gf,
    fst ++ #[.func (.yield (w.heap.size + 1)) #[] #[]] ++ lb, W1, run_enterLoop_outer _ _ _ _ _, ?_, fun _ _ => trivial, by simp [invoke, go_sem, eg], fun _ => by omega, ?_⟩
  · simp only [resolve, hg]
    simp [go_sem]
  · refine (hseq (w.heap.size + 1) J W1 hs1 ⟨hI1, by rw [hst0]; exact hL, hD, by omega⟩ ?_ (fun s A h => h.1) ?_).mono ?_
    · rintro s A A' row ⟨h1, h2, h3, h4⟩ hgr hr
      have hb : ∀ k, k < w.heap.size + 2 → A'.heap[k]? = A.heap[k]? := fun k hk => hgr.block k (by omega) (fun e => by have := (hr k e.symm).1; omega)
      exact ⟨hI s A A' row h1 hgr (fun r e => ⟨by have := (hr r e).1; omega, (hr r e).2⟩), (hb _ (by omega)).trans h2, (hb _ (by omega)).trans h3, Nat.le_trans h4 hgr.size⟩
    · rintro m pre x W hxr ⟨h1, h2, h3, h4⟩ hgood _
      rw [hst1 hgood] at h2
      refine yieldAny (m := 1) m ⟨fn, _, assign, body, run_yield h2 (hps x), roundIn_of_wpIn hfn (wpIn_mono (hround _ pre x W hxr h4 h1 hgood) ?_)⟩
      rintro ex a' Wa hex
      cases ex with
      | normal => ?_
      | _ => exact hex.elim
      obtain ⟨hga, hgo⟩ := hex
      have ka : Kept w.heap.size W Wa := .grown hga (fun r e => by cases e)
      have h2a := (ka.same _ (by omega) (by omega)).trans h2
      have h3a := (ka.same _ (by omega) (by omega)).trans h3
      have h4a := ka.size
      refine ⟨Wa.putObj (w.heap.size + 1) (.loop { rec_ .ready none with state := .busy }), run_beginRound h2a rfl, ?_⟩
      have hl2 : (Wa.putObj (w.heap.size + 1) (.loop { rec_ .ready none with state := .busy })).heap[w.heap.size + 1]? = some (.loop { rec_ .ready none with state := .busy }) := World.putObj_heap_same (by omega)
      have hk2 := (World.putObj_heap_other (w := Wa) (o := .loop { rec_ .ready none with state := .busy }) (show w.heap.size ≠ w.heap.size + 1 by omega)).trans h3a
      refine wpIn_mono (hgo (Wa.putObj (w.heap.size + 1) (.loop { rec_ .ready none with state := .busy })) (by simp) (fun k hk => World.putObj_heap_other hk) (hI _ _ _ _ (hI _ _ _ _ h1 hga (fun r e => by cases e)) (grownBy_putObj' Wa _ _) (fun r e => by cases e; exact ⟨by omega, _, h2a, rfl⟩))) ?_
      have fin : ∀ (c : Option Code) (W3 : World), I (pre ++ [x]) W3 → Held w.heap.size (Wa.putObj (w.heap.size + 1) (.loop { rec_ .ready none with state := .busy })) W3 → st (pre ++ [x]) = (if c.isNone then .ready else .done, c) →
          (Instr.endRound (w.heap.size + 1) c).run P W3 = .ok (.bool c.isNone) (W3.putObj (w.heap.size + 1) (.loop (rec_ (if c.isNone then .ready else .done) c))) ∧
          J (pre ++ [x]) (W3.putObj (w.heap.size + 1) (.loop (rec_ (if c.isNone then .ready else .done) c))) ∧ W.heap.size ≤ (W3.putObj (w.heap.size + 1) (.loop (rec_ (if c.isNone then .ready else .done) c))).heap.size := fun c W3 hi3 hk3 hs => by
        have hl3 := hk3.b.trans hl2
        have hd3 := hk3.a.trans hk2
        have hz3 : w.heap.size + 2 ≤ W3.heap.size := Nat.le_trans (by simp; omega) hk3.size
        refine ⟨run_endRound c hl3, ⟨hI _ _ _ _ hi3 (grownBy_putObj' W3 _ _) (fun r e => by cases e; exact ⟨by omega, _, hl3, rfl⟩), by rw [hs]; exact World.putObj_heap_same (by omega), (World.putObj_heap_other (by omega)).trans hd3, by simp; omega⟩, ?_⟩
        exact Nat.le_trans ka.size (Nat.le_trans (by simp) (Nat.le_trans hk3.size (by simp)))
      rintro e a3 W3 hp
      cases e with
      | normal =>
        obtain ⟨hgx, hi3, hk3⟩ := hp
        obtain ⟨hr, hj, hk⟩ := fin none W3 hi3 hk3 (hst1 (good_snoc hgood hgx))
        exact ⟨_, _, hr, by rw [hgx]; rfl, hj, hk⟩
      | exit i =>
        obtain ⟨rfl, hgx, hi3, hk3⟩ := hp
        obtain ⟨hr, hj, hk⟩ := fin (some (.exit eid)) W3 hi3 hk3 (hst2 hgx)
        exact ⟨_, _, hr, by rw [hgx]; rfl, hj, hk⟩
      | _ => exact hp.elim
    · rintro e W2 ⟨⟨v, rfl⟩, hi, hl, hk, hz⟩
      by_cases hall : ∀ y ∈ xs, good y = true
      · rw [upTo_all hall] at hi hl
        rw [hst1 hall] at hl
        exact ⟨none, _, run_endLoop hl (by simp [rec_]), hdone _ (by simp; omega) (hI _ _ _ _ hi (grownBy_putObj' W2 _ _) (fun r e => by cases e; exact ⟨by omega, _, hl, rfl⟩)) hall ((World.putObj_heap_other (by omega)).trans hk)⟩
      · have hs : st (upTo good xs) = (.done, some (.exit eid)) := if_neg (fun hh => hall (upTo_ext hh))
        rw [hs] at hl
        exact ⟨some (.exit eid), _, run_endLoop hl (by simp [rec_]), hstop _ (by simp; omega) (hI _ _ _ _ hi (grownBy_putObj' W2 _ _) (fun r e => by cases e; exact ⟨by omega, _, hl, rfl⟩)) hall ((World.putObj_heap_other (by omega)).trans hk)⟩

end Go.Proofs.YthjdacbgcpldjaaDoor.Up

/-
  The contract of the document's row of pairs of places.
-/
namespace Go.Proofs.YthjdacbgcpldjaaDoor.Ins
open Go.RowKit Go.Sort Go.Proofs.YthjdacbgcpldjaaDoor.Mem Go.Proofs.YthjdacbgcpldjaaDoor.Route Go.Proofs.YthjdacbgcpldjaaDoor.When Go.Proofs.YthjdacbgcpldjaaDoor.Load
set_option linter.unusedVariables false

theorem info_two : (Tryd.prog.info? 41).map (fun i => (i.zero, i.size, i.bytes)) = some (some (.agg #[.int .i64 0, .int .i64 0]), 2, 16) := by kernel_rfl

set_option maxRecDepth 100000 in
set_option maxHeartbeats 4000000 in
theorem refPlaces_any (n : Int) (w : World) :
    Calls Tryd.prog 13 #[.int .i64 n] w fun e w' => (∃ u, e = .returned u ∧ Row w'.heap.size w' u (pairsL n)) ∧ Below w.heap.size w w' := by
  obtain ⟨i0, hi, hz0, hz1, hz2⟩ := info_parts info_two
  by_cases h1 : 16 < n
  · have he := Lib.hid (pairsL_big h1)
    go_enter Tryd.func13, Tryd.ntmps13
    go_wp2
    go_ret
    exact ⟨⟨_, rfl, by rw [he.out]; exact RowB.nil _ _ _⟩, Below.refl _ _⟩
  by_cases h2 : n < 0
  · have he := Lib.hid (pairsL_neg h2)
    go_enter Tryd.func13, Tryd.ntmps13
    go_wp2
    go_loopw [3, 4] (fun u i wr => u = .slice none 0 0 ∧ i = .int .i64 0 ∧ wr = w) (fun _ i _ => 1 - (intOf i).toNat)
    case atStart => exact ⟨rfl, rfl, rfl⟩
    case round =>
      obtain ⟨rfl, rfl, rfl⟩ := hrel
      go_wp2
      go_ret
      exact ⟨⟨_, rfl, by rw [he.out]; exact RowB.nil _ _ _⟩, Below.refl _ _⟩
  obtain ⟨N, rfl⟩ : ∃ N : Nat, n = N := ⟨n.toNat, by omega⟩
  have hN : N ≤ 16 := by omega
  have hlen : Hid (∀ pre rest : List (Int × Int), pairsL N = pre ++ rest → pre.length ≤ 153) := Lib.hid (fun pre rest h => by
    have := pairsL_len N
    rw [h, List.length_append] at this
    omega)
  obtain ⟨xs, hxs⟩ : ∃ xs, pairsL N = xs := ⟨_, rfl⟩
  have hxs' : Hid (xs = fromL N 0) := Lib.hid (by rw [← hxs, pairsL_in hN])
  rw [hxs] at hlen ⊢
  clear hxs
  go_enter Tryd.func13, Tryd.ntmps13
  go_wp2
  go_loopw [3, 4] (fun u i wr => ∃ (pre : List (Int × Int)) (k : Nat), i = .int .i64 k ∧ k ≤ N + 1 ∧ Hid (xs = pre ++ fromL N k) ∧ wr.ownsRow w.heap.size 41 2 u pre.length (flatS pre) ∧ Below w.heap.size w wr)
    (fun _ i _ => N + 1 - (intOf i).toNat)
  case atStart => exact ⟨[], 0, rfl, Nat.zero_le _, hxs', by simpa [flatS] using World.ownsRow_nil _ _ _ _, Below.refl _ _⟩
  case round =>
    obtain ⟨pre, k, rfl, hk, hx, hown, hbw⟩ := hrel
    by_cases hlt : k ≤ N
    · have hx2 : Hid (xs = pre ++ (rowL N k k ++ fromL N (k + 1))) := Lib.hid (by rw [hx.out, fromL_cons hlt])
      clear hx
      obtain ⟨wo, hwo⟩ : ∃ wo, wo = wr := ⟨_, rfl⟩
      subst hwo
      have hkNi : (k : Int) ≤ (N : Int) := by omega
      go_wp2
      go_loopw [3, 5] (fun u j wr => ∃ (pre : List (Int × Int)) (m : Nat), j = .int .i64 m ∧ m ≤ N + 1 ∧ Hid (xs = pre ++ (rowL N k m ++ fromL N (k + 1))) ∧ wr.ownsRow w.heap.size 41 2 u pre.length (flatS pre) ∧ Below w.heap.size w wr)
        (fun _ j _ => N + 1 - (intOf j).toNat)
      case atStart => exact ⟨pre, k, rfl, by omega, hx2, hown, hbw⟩
      case round =>
        clear hown hx2 hbw pre
        obtain ⟨pre, m, rfl, hm, hx, hown, hbw⟩ := hrel
        by_cases hlm : m ≤ N
        · have hx2 : Hid (xs = (pre ++ [((k : Int), (m : Int))]) ++ (rowL N k (m + 1) ++ fromL N (k + 1))) := Lib.hid (by rw [hx.out, rowL_cons hlm, List.append_assoc]; rfl)
          have hpl := hlen.out _ _ hx.out
          have hlmi : (m : Int) ≤ (N : Int) := by omega
          have hsn : Hid (flatS (pre ++ [((k : Int), (m : Int))]) = flatS pre ++ [.int .i64 k, .int .i64 m]) := Lib.hid (flatS_snoc _ _)
          have hmN : Hid (m + 1 ≤ N + 1) := Lib.hid (by omega)
          have hrow := Lib.hid (owns_row hown)
          have hbw' := Lib.hid hbw
          have hsz := hbw.size
          clear hx hbw
          go_wp2_with (at_builtin; refine wpList_append_own _ rfl _ _ 38 rfl w.heap.size 41 i0 (.agg #[.int .i64 0, .int .i64 0]) 2 16 Tryd.underlying38 hi hz0 hz1 hz2 rfl (by decide) _ _ _ rfl (hown.alloc _) ⟨wr.heap.size, 0, none⟩ 1 1 [.int .i64 k, .int .i64 m] rfl rfl (World.news_of_block (cs := #[.int .i64 k, .int .i64 m]) (t := 41) (fr := (0, 0)) (heap_alloc_new wr _)) (by simp [Value.oneCell']) (by unfold maxLen; omega) (by omega) (by simp; omega) ?_; intro v7 w7 hown7 hgrow7 hnil7)
          have hb7 : Below w.heap.size w w7 := (hbw'.out.alloc hbw'.out.size _).grown hgrow7 (by simp; omega) hrow.out
          go_roundw
          case rel => exact ⟨pre ++ [((k : Int), (m : Int))], m + 1, by go_num, hmN.out, hx2, by rw [hsn.out, List.length_append]; exact hown7, hb7⟩
          case measure => simp [intOf]; omega
        · obtain rfl : m = N + 1 := by omega
          have hx2 : Hid (xs = pre ++ fromL N (k + 1)) := Lib.hid (by rw [hx.out, rowL_nil (Nat.lt_succ_self _)]; rfl)
          clear hx
          go_wp2
          go_roundw
          case rel => exact ⟨pre, k + 1, by go_num, by omega, hx2, hown, hbw⟩
          case measure => simp [intOf]; omega
    · obtain rfl : k = N + 1 := by omega
      have hx2 : Hid (xs = pre) := Lib.hid (by rw [hx.out, fromL_nil (Nat.lt_succ_self _), List.append_nil])
      have hr := Lib.hid (Row.of_owns (B := wr.heap.size) hown rfl (Nat.le_refl _))
      clear hx hown
      go_wp2
      go_ret
      exact ⟨⟨_, rfl, by rw [hx2.out]; exact hr.out⟩, hbw⟩

end Go.Proofs.YthjdacbgcpldjaaDoor.Ins

/-
  The contract of the law's own pairs: what Places yields, so many at most.
-/
namespace Go.Proofs.YthjdacbgcpldjaaDoor.Ins
open Go.RowKit Go.Sort Go.Shelf Go.Proofs.YthjdacbgcpldjaaDoor.Mem Go.Proofs.YthjdacbgcpldjaaDoor.Route Go.Proofs.YthjdacbgcpldjaaDoor.When Go.Proofs.YthjdacbgcpldjaaDoor.Load Go.Proofs.YthjdacbgcpldjaaDoor.Up
set_option linter.unusedVariables false

attribute [local go_sem] Oper.semAt_some

theorem pairsL_nodup (n : Int) : (pairsL n).Nodup := by
  by_cases h1 : 16 < n
  · rw [pairsL_big h1]; exact List.nodup_nil
  by_cases h2 : n < 0
  · rw [pairsL_neg h2]; exact List.nodup_nil
  obtain ⟨N, rfl⟩ : ∃ N : Nat, n = N := ⟨n.toNat, by omega⟩
  have hN : N ≤ 16 := by omega
  rw [pairsL_in hN]
  have : ∀ N, N ≤ 16 → (fromL N 0).Nodup := by decide +kernel
  exact this N hN
def takeV (n M : Int) : List (Int × Int) := if 0 < M then (pairsL n).take M.toNat else pairsL n
/-- Not the last one that is taken. -/
def goodP (n M : Int) (y : Int × Int) : Bool := !(decide (0 < M) && decide ((pairsL n)[M.toNat - 1]? = some y))
theorem goodP_zero {n M : Int} (h : ¬ 0 < M) (y : Int × Int) : goodP n M y = true := by simp [goodP, h]
theorem goodP_at {n M : Int} (hM : 0 < M) {pre rest : List (Int × Int)} {x : Int × Int} (h : pairsL n = pre ++ x :: rest) (hg : ∀ y ∈ pre, goodP n M y = true) : (pre.length + 1 ≤ M.toNat) ∧ (goodP n M x = decide (pre.length + 1 < M.toNat)) := by
  have hx : (pairsL n)[pre.length]? = some x := by rw [h]; simp
  have hle : pre.length + 1 ≤ M.toNat := by
    by_cases hc : pre.length + 1 ≤ M.toNat
    · exact hc
    · exfalso
      have hlt : M.toNat - 1 < pre.length := by omega
      have hy := hg (pre[M.toNat - 1]) (List.getElem_mem _)
      have he : (pairsL n)[M.toNat - 1]? = some (pre[M.toNat - 1]) := by rw [h, List.getElem?_append_left hlt]; exact List.getElem?_eq_getElem hlt
      simp [goodP, hM, he] at hy
  refine ⟨hle, ?_⟩
  by_cases hc : pre.length + 1 < M.toNat
  · rw [decide_eq_true hc]
    have hne : ¬ (pairsL n)[M.toNat - 1]? = some x := fun e => by
      have hl : pre.length < (pairsL n).length := (List.getElem?_eq_some_iff.1 hx).1
      have := (List.getElem?_inj hl (pairsL_nodup n)).1 (hx.trans e.symm)
      omega
    simp [goodP, hne]
  · rw [decide_eq_false hc]
    have he : M.toNat - 1 = pre.length := by omega
    simp [goodP, hM, he, hx]
theorem upTo_take (n M : Int) : upTo (goodP n M) (pairsL n) = takeV n M := by
  by_cases hM : 0 < M
  · unfold takeV
    rw [if_pos hM]
    by_cases hl : (pairsL n).length < M.toNat
    · rw [List.take_of_length_le (by omega)]
      refine upTo_all fun y hy => ?_
      obtain ⟨k, hk, e⟩ := List.getElem_of_mem hy
      have hne : ¬ (pairsL n)[M.toNat - 1]? = some y := fun e2 => by
        have := (List.getElem?_eq_some_iff.1 e2).1
        omega
      simp [goodP, hne]
    · have hlt : M.toNat - 1 < (pairsL n).length := by omega
      have hs : pairsL n = (pairsL n).take (M.toNat - 1) ++ (pairsL n)[M.toNat - 1] :: (pairsL n).drop (M.toNat - 1 + 1) := by
        rw [← List.drop_eq_getElem_cons hlt, List.take_append_drop]
      have hbad : goodP n M (pairsL n)[M.toNat - 1] = false := by simp [goodP, hM, List.getElem?_eq_getElem hlt]
      have hgood : ∀ y ∈ (pairsL n).take (M.toNat - 1), goodP n M y = true := fun y hy => by
        obtain ⟨k, hk, e⟩ := List.getElem_of_mem hy
        rw [List.length_take] at hk
        rw [List.getElem_take] at e
        have hne : ¬ (pairsL n)[M.toNat - 1]? = some y := fun e2 => by
          have hkl : k < (pairsL n).length := by omega
          have := (List.getElem?_inj hkl (pairsL_nodup n)).1 ((List.getElem?_eq_getElem hkl).trans ((congrArg some e).trans e2.symm))
          omega
        simp [goodP, hne]
      rw [congrArg (upTo (goodP n M)) hs, upTo_append hgood, upTo_bad hbad]
      conv => rhs; rw [show M.toNat = M.toNat - 1 + 1 by omega, List.take_add_one, List.getElem?_eq_getElem hlt]
      rfl
  · rw [upTo_all (fun y _ => goodP_zero hM y)]
    unfold takeV
    rw [if_neg hM]

/-- What the walk holds: how many at most, and what has come. -/
structure PrI (w : World) (q b : Nat) (n M : Int) (pre : List (Int × Int)) (W : World) : Prop where
  most : At W q 3 #[.int .i64 M]
  out : ∃ x cap, At W (q + 1) 38 #[.slice x pre.length cap] ∧ W.ownsRow (b + 3) 41 2 (.slice x pre.length cap) pre.length (flatS pre)
  num : At W b 3 #[.int .i64 n]
  below : Below q w W
theorem PrI.old {w : World} {q b m : Nat} {n M : Int} (hm : b < m) (hb : q + 1 < b) : Old m (PrI w q b n M) := by
  rintro pre A A' row h hg hr
  obtain ⟨x, cap, h1, h2⟩ := h.out
  exact ⟨At.oldCells h.most hg hr, ⟨x, cap, At.oldCells h1 hg hr, owns_old h2 hg (fun r e => .inr (hr r e).2)⟩, At.oldCells h.num hg hr, h.below.grown hg (Nat.le_of_lt h.most.inside) (fun k e => by have := (hr k e).1; omega)⟩

set_option maxRecDepth 100000 in
set_option maxHeartbeats 8000000 in
theorem pairs_any (n M : Int) (w : World) : Calls Tryd.prog 14 #[.int .i64 n, .int .i64 M] w fun e w' => (∃ u, e = .returned u ∧ Row w'.heap.size w' u (takeV n M)) ∧ Below w.heap.size w w' := by
  obtain ⟨i0, hi, hz0, hz1, hz2⟩ := info_parts info_two
  obtain ⟨q, hq⟩ : ∃ q, w.heap.size = q := ⟨_, rfl⟩
  obtain ⟨w0, hw0⟩ : ∃ w0, (w.alloc (.cells #[.int .i64 M] 3)).alloc (.cells #[.slice none 0 0] 38) = w0 := ⟨_, rfl⟩
  have hs0 : w0.heap.size = q + 2 := by rw [← hw0]; simp [hq]
  have hM0 : At w0 q 3 #[.int .i64 M] := by rw [← hw0]; exact (At.new_ _ _ _ hq.symm).alloc _
  have hO0 : At w0 (q + 1) 38 #[.slice none 0 0] := by rw [← hw0]; exact At.new_ _ _ _ (by simp [hq])
  have hb0 : Below q w w0 := by rw [← hw0]; exact ((Below.refl _ _).alloc (by omega) _).alloc (by simp; omega) _
  have hq' := Lib.hid hq
  refine (callsIn_wide (n := 3)).1 ?_
  refine callsIn_of_wp_marks Tryd.func14 rfl trivial ?_ rfl
  simp only [Tryd.ntmps14, List.size_toArray, List.length_cons, List.length_nil, Nat.reduceAdd, Nat.reduceSub, Array.replicate_succ, Array.replicate_zero, List.push_toArray, List.append_toArray, List.nil_append, List.cons_append]
  refine wpIn_wide.2 ?_
  go_wp2_with fail
  try simp only [hq]
  try rw [hw0]
  refine (Places_any n w0).mono ?_
  rintro e w1 ⟨rfl, hw1⟩
  have hb1 : Below w0.heap.size w0 w1 := by rw [← hw1]; exact (Below.refl _ _).alloc (Nat.le_refl _) _
  have hs1 : w1.heap.size = q + 3 := by rw [← hw1]; simp [hs0]
  have hnil := nil_places
  clear hw0 hw1 hq
  go_wp2_with fail
  refine (Places_any n w1).mono ?_
  rintro e w2 ⟨rfl, hw2⟩
  have hb2 : Below w1.heap.size w1 w2 := by rw [← hw2]; exact (Below.refl _ _).alloc (Nat.le_refl _) _
  have hs2 : w2.heap.size = q + 4 := by rw [← hw2]; simp [hs1]
  have hN2 : At w2 (q + 3) 3 #[.int .i64 n] := by rw [← hw2]; exact At.new_ _ _ _ hs1.symm
  have hb02 := hb1.trans (hb2.mono hb1.size)
  have hI2 : PrI w q (q + 3) n M [] w2 := ⟨hM0.keep hb02 hM0.inside, ⟨none, 0, hO0.keep hb02 hO0.inside, World.ownsRow_nil _ _ _ _⟩, hN2, hb0.trans (hb02.mono (by omega))⟩
  have hs1' := Lib.hid hs1
  have hs2' := Lib.hid hs2
  clear hw2 hb1 hb2 hN2 hb02 hM0 hO0 hb0 hs0 hs1 hnil
  go_wp2_with fail
  try simp only [hs1'.out]
  refine (wpIn_wide (n := 3)).1 ?_
  refine rangesRoundB 0 (gf := 47) (fst := #[]) (lb := #[.pointer (some ⟨q + 3, 0, none⟩)]) rfl (enters_of Tryd.func47 (by kernel_rfl) rfl) (encs := encP) (good := goodP n M) (xs := pairsL n) (fun _ => rfl)
    (PrI w q (q + 3) n M) (PrI.old (by omega) (by omega)) hI2 (places_runs n (q + 3) _ _ (PrI w q (q + 3) n M) (fun _ _ h => h.num)) ?round ?done ?stop
  case round =>
    rintro l2 pre x Wr ⟨rest, hx⟩ hW2 hIr hg
    have hpl : pre.length ≤ 152 := by have := pairsL_len n; rw [hx, List.length_append, List.length_cons] at this; omega
    have hgz := Lib.hid (fun h : ¬ 0 < M => goodP_zero (n := n) h x)
    have hga := Lib.hid (fun h : 0 < M => goodP_at h hx hg)
    dsimp only [encP]
    gi_wp2
    refine ⟨World.grownBy.refl _ _, fun Vr hVs hVb hI2 => ?_⟩
    obtain ⟨y, cap, hO, hown⟩ := hI2.out
    have o0 := hO.cell 0
    have of_ := hO.free 0
    simp at o0
    have hOi := hO.inside
    have hsn : Hid (flatS (pre ++ [x]) = flatS pre ++ [.int .i64 x.1, .int .i64 x.2]) := Lib.hid (flatS_snoc _ _)
    have hI2' := Lib.hid hI2
    have hO' := Lib.hid hO
    have hown' := Lib.hid hown
    have hrow := Lib.hid (owns_row hown)
    have hVs' : q + 5 < Vr.heap.size := by omega
    have hun : ∀ w7, (Vr.alloc (.cells #[.int .i64 x.1, .int .i64 x.2] 41)).grownBy w7 (Value.slice y pre.length cap).ownBlock → At w7 (q + 1) 38 #[.slice y pre.length cap] := fun w7 hg7 =>
      At.under (m := q + 6) (hO.alloc _) hg7 (fun r e => by have := hrow.out r e; omega) (by omega)
    clear hI2 hIr hVb hVs hx hW2 hg hO hown
    gi_upto_region 8 with (gi_at_builtin; refine wpListIn_append_own _ rfl _ _ 38 rfl (q + 3 + 3) 41 i0 (.agg #[.int .i64 0, .int .i64 0]) 2 16 Tryd.underlying38 hi hz0 hz1 hz2 rfl (by decide) _ _ _ rfl (hown'.out.alloc _) ⟨Vr.heap.size, 0, none⟩ 1 1 [.int .i64 x.1, .int .i64 x.2] rfl rfl (World.news_of_block (cs := #[.int .i64 x.1, .int .i64 x.2]) (t := 41) (fr := (0, 0)) (heap_alloc_new Vr _)) (by simp [Value.oneCell']) (by unfold maxLen; omega) (by omega) (by simp; omega) ?_; intro v7 w7 hown7 hgrow7 hnil7; obtain ⟨x7, c7, rfl, _, _⟩ := owns_slice hown7; have hO7c := (hun w7 hgrow7).cell 0; have hO7f := (hun w7 hgrow7).free 0; simp at hO7c)
    have hm0 := hI2'.out.most.cell 0
    simp at hm0
    have hr7 : ∀ r, (Value.slice y pre.length cap).ownBlock = some r → q + 6 ≤ r := fun r e => by have := hrow.out r e; omega
    have hO7 := hun w7 hgrow7
    have hMo7 := At.under (hI2'.out.most.alloc (.cells #[.int .i64 x.1, .int .i64 x.2] 41)) hgrow7 hr7 (by omega)
    have hNu7 := At.under (hI2'.out.num.alloc (.cells #[.int .i64 x.1, .int .i64 x.2] 41)) hgrow7 hr7 (by omega)
    have hB7 := (hI2'.out.below.alloc (by omega) (.cells #[.int .i64 x.1, .int .i64 x.2] 41)).grown hgrow7 (by simp; omega) (fun r e => by have := hr7 r e; omega)
    have hH7 : Held w2.heap.size Vr w7 := (Held.alloc Vr (.cells #[.int .i64 x.1, .int .i64 x.2] 41) (by have := hs2'.out; omega)).trans (Held.grown hgrow7 (by have := hs2'.out; simp; omega) (fun r e => by have := hr7 r e; have := hs2'.out; omega))
    obtain ⟨w8, hw8⟩ : ∃ w8, w7.setCell ⟨q + 1, 0, none⟩ (.slice x7 (pre.length + 1) c7) = w8 := ⟨_, rfl⟩
    have hfin : PrI w q (q + 3) n M (pre ++ [x]) w8 := by
      rw [← hw8]
      refine ⟨hMo7.far (by omega) _ _, ⟨x7, c7, ?_, ?_⟩, hNu7.far (by omega) _ _, hB7.setCell (by simp) _⟩
      · rw [List.length_append]
        simpa using hO7.put 0 (.slice x7 (pre.length + 1) c7)
      · rw [List.length_append, hsn.out]
        exact owns_far hown7 (by omega) _ _
    have hH8 : Held w2.heap.size Vr w8 := by rw [← hw8]; exact hH7.trans (Held.setCell _ (by have := hs2'.out; omega) (by have := hs2'.out; omega) _)
    have m0 := hfin.most.cell 0
    obtain ⟨x8, c8, hO8, _⟩ := hfin.out
    have o8 := hO8.cell 0
    simp at m0 o8
    rw [hw8]
    have hfin' := Lib.hid hfin
    have hH8' := Lib.hid hH8
    clear hw8 hfin hH8 hO8 hO7 hMo7 hNu7 hB7 hH7 hr7 hown7 hgrow7 hnil7 hm0 o0 of_ hun hO7c hO7f
    by_cases hM : 0 < M
    · obtain ⟨h1, h2⟩ := hga.out hM
      have hMi : (0 : Int) < M := hM
      by_cases hc : pre.length + 1 < M.toNat
      · have hcm : ¬ (M ≤ ((pre.length : Int) + 1)) := by omega
        have h2' := Lib.hid (h2.trans (decide_eq_true hc))
        clear h1 h2 hc hga hgz
        gi_wp2
        exact ⟨h2'.out, hfin'.out, by have h9 := hH8'.out; rw [hs2'.out] at h9; exact h9⟩
      · have hcm : M ≤ ((pre.length : Int) + 1) := by omega
        have h2' := Lib.hid (h2.trans (decide_eq_false hc))
        clear h1 h2 hc hga hgz
        gi_wp2
        exact ⟨rfl, h2'.out, hfin'.out, by have h9 := hH8'.out; rw [hs2'.out] at h9; exact h9⟩
    · have h2' := Lib.hid (hgz.out (by omega))
      clear hga hgz
      gi_wp2
      exact ⟨h2'.out, hfin'.out, by have h9 := hH8'.out; rw [hs2'.out] at h9; exact h9⟩
  case done =>
    rintro Wr hW2 hI2 hall hD
    have htk : Hid (takeV n M = pairsL n) := Lib.hid (by rw [← upTo_take, upTo_all hall])
    obtain ⟨y, cap, hO, hown⟩ := hI2.out
    have hR := Lib.hid (Row.of_owns (B := (Wr.putObj w2.heap.size (.deferred none)).heap.size) (owns_old hown (grownBy_putObj' Wr w2.heap.size (.deferred none)) (fun r e => .inr (by cases e; exact ⟨_, hD, rfl⟩))) rfl (Nat.le_refl _))
    have hB := Lib.hid (hI2.below.grown (grownBy_putObj' Wr w2.heap.size (.deferred none)) (Nat.le_of_lt hI2.most.inside) (fun r e => by cases e; have := hs2'.out; omega))
    have o0 := hO.cell 0
    simp at o0
    have hOi := hO.inside
    clear hI2 hall hO hown
    go_wp2
    refine ⟨by simp, .inl ⟨_, _, rfl, run_takeDeferred hD, ?_⟩⟩
    exact ⟨.slice y (pairsL n).length cap, by simp [results, Tryd.results14, go_sem], ⟨_, rfl, by rw [htk.out]; exact hR.out⟩, by rw [hq'.out]; exact hB.out⟩
  case stop =>
    rintro Wr hW2 hI2 hbad hD
    rw [upTo_take] at hI2
    obtain ⟨y, cap, hO, hown⟩ := hI2.out
    have hR := Lib.hid (Row.of_owns (B := (Wr.putObj w2.heap.size (.deferred none)).heap.size) (owns_old hown (grownBy_putObj' Wr w2.heap.size (.deferred none)) (fun r e => .inr (by cases e; exact ⟨_, hD, rfl⟩))) rfl (Nat.le_refl _))
    have hB := Lib.hid (hI2.below.grown (grownBy_putObj' Wr w2.heap.size (.deferred none)) (Nat.le_of_lt hI2.most.inside) (fun r e => by cases e; have := hs2'.out; omega))
    have o0 := hO.cell 0
    simp at o0
    have hOi := hO.inside
    clear hI2 hbad hO hown
    refine wpIn_wide.2 ?_
    go_wp2
    refine ⟨by simp, .inl ⟨_, _, rfl, run_takeDeferred hD, ?_⟩⟩
    exact ⟨.slice y (takeV n M).length cap, by simp [results, Tryd.results14, go_sem], ⟨_, rfl, hR.out⟩, by rw [hq'.out]; exact hB.out⟩

end Go.Proofs.YthjdacbgcpldjaaDoor.Ins

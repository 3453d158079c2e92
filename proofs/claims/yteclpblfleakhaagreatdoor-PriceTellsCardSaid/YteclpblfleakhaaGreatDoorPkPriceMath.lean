import Derived.Test.YteclpblfleakhaaGreatDoorPkFeasRefC
import Derived.Test.YteclpblfleakhaaGreatDoorPkLoadFits

namespace Go.Proofs.YteclpblfleakhaaGreatDoor.Price
open Go.RowKit Go.Proofs.YteclpblfleakhaaGreatDoor.Order Go.Proofs.YteclpblfleakhaaGreatDoor.Place Go.Proofs.YteclpblfleakhaaGreatDoor.Route Go.Proofs.YteclpblfleakhaaGreatDoor.When Go.Proofs.YteclpblfleakhaaGreatDoor.Load Go.Proofs.YteclpblfleakhaaGreatDoor.Feas Go.Proofs.YteclpblfleakhaaGreatDoor.Ins Go.Proofs.YteclpblfleakhaaGreatDoor.Cheap Go.Proofs.YteclpblfleakhaaGreatDoor.Plan
set_option linter.unusedVariables false
def okF (v : Vh) (l : List (Int × Int)) (t : List Rq) : Bool := decide ((faultV v l t).1 = 0)
theorem ok_dr {v : Vh} {l : List (Int × Int)} {t : List Rq} (h : okF v l t = true) : Feas.Dr v l t ∧ errT v l t = 0 ∧ fitE v l t = 0 := by
 have h0 : (faultV v l t).1 = 0 := by simpa [okF] using h
 obtain ⟨h2, h3, h4, h5, h6, -⟩ := may_dr (look_may (fault_zero.1 h0))
 have hd : Feas.Dr v l t := ⟨h2, h3, h4, h5, h6⟩
 exact ⟨hd, (fault_iff hd).1 h0⟩
theorem ok_of {v : Vh} {l : List (Int × Int)} {t : List Rq} (hd : Feas.Dr v l t) (h1 : errT v l t = 0) (h2 : fitE v l t = 0) : okF v l t = true := by
 have := (fault_iff hd).2 ⟨h1, h2⟩
 simpa [okF] using this
def offB (l : List (Int × Int)) (ls : List (List (Int × Int))) : Bool := l.all fun s => ls.all fun m => noR s.1 m
theorem offB_iff {l : List (Int × Int)} {ls : List (List (Int × Int))} : offB l ls = true ↔ ∀ s ∈ l, ∀ m ∈ ls, noR s.1 m = true := by unfold offB; simp only [List.all_eq_true]
def mayL (t : List Rq) : List Vh → List (List (Int × Int)) → List (List (Int × Int)) → Bool
 | [], [], _ => true
 | v :: vs, l :: ls, pre => okF v l t && (offB l pre && mayL t vs ls (pre ++ [l]))
 | [], _ :: _, _ => false
 | _ :: _, [], _ => false
def mayS (S : St) : Bool := decide (1 ≤ S.vs.length ∧ S.vs.length ≤ 4) && mayL S.t S.vs S.rows []
theorem mayL_iff {t : List Rq} : ∀ {vs : List Vh} {ls pre : List (List (Int × Int))}, mayL t vs ls pre = true ↔ ls.length = vs.length ∧ ∀ (i : Nat) v l, vs[i]? = some v → ls[i]? = some l → okF v l t = true ∧ offB l (pre ++ ls.take i) = true
 | [], [], pre => by simp [mayL]
 | [], _ :: _, pre => by simp [mayL]
 | _ :: _, [], pre => by simp [mayL]
 | v :: vs, l :: ls, pre => by
  have ih := mayL_iff (t := t) (vs := vs) (ls := ls) (pre := pre ++ [l])
  show (okF v l t && (offB l pre && mayL t vs ls (pre ++ [l]))) = true ↔ _
  rw [Bool.and_eq_true, Bool.and_eq_true, ih]
  constructor
  · rintro ⟨h1, h2, h3, h4⟩
    refine ⟨by simp [h3], fun i v' l' hv hl => ?_⟩
    cases i with
    | zero =>
     simp at hv hl
     subst hv; subst hl
     exact ⟨h1, by simpa using h2⟩
    | succ i =>
     simp at hv hl
     have := h4 i v' l' hv hl
     simpa using this
  · rintro ⟨h1, h2⟩
    have h0 := h2 0 v l rfl rfl
    refine ⟨h0.1, by simpa using h0.2, by simpa using h1, fun i v' l' hv hl => ?_⟩
    have := h2 (i + 1) v' l' (by simpa using hv) (by simpa using hl)
    simpa using this
theorem mayS_iff {S : St} : mayS S = true ↔ (1 ≤ S.vs.length ∧ S.vs.length ≤ 4) ∧ S.rows.length = S.vs.length ∧ ∀ (i : Nat) v l, S.vs[i]? = some v → S.rows[i]? = some l → okF v l S.t = true ∧ offB l (S.rows.take i) = true := by
 unfold mayS
 rw [Bool.and_eq_true, decide_eq_true_eq, mayL_iff]
 simp
theorem noR_mem {r : Int} {l : List (Int × Int)} (h : noR r l = false) : ∃ s ∈ l, s.1 = r := by
 apply Classical.byContradiction
 intro hc
 have := noR_iff (r := r) (l := l).2 (fun s hs e => hc ⟨s, hs, e⟩)
 rw [this] at h; cases h
theorem noR_of {r : Int} {l : List (Int × Int)} {s : Int × Int} (hs : s ∈ l) (h : s.1 = r) : noR r l = false := by
 cases e : noR r l
 · rfl
 · exact absurd h (noR_iff.1 e s hs)
theorem may_ok {S : St} (h : mayS S = true) (ht : S.t.length ≤ 1000) (hn : ∀ l ∈ S.rows, Nums l) : Ok S := by
 obtain ⟨hc, hl, hall⟩ := mayS_iff.1 h
 have key : ∀ (i j : Nat) l m r, i < j → S.rows[i]? = some l → S.rows[j]? = some m → noR r l = false → noR r m = false → False := fun i j l m r hij hi hj h1 h2 => by
  have hj' := (List.getElem?_eq_some_iff.1 hj).1
  have hv : S.vs[j]? = some (S.vs[j]'(by omega)) := List.getElem?_eq_getElem _
  have ho := offB_iff.1 (hall j _ m hv hj).2
  obtain ⟨s, hs, rfl⟩ := noR_mem h2
  have hmem : l ∈ S.rows.take j := by
   have : (S.rows.take j)[i]? = some l := by rw [List.getElem?_take_of_lt hij]; exact hi
   exact List.mem_of_getElem? this
  rw [ho s hs l hmem] at h1
  cases h1
 refine ⟨hl, hc, ht, fun i v l hv hl2 => ?_, fun i j l m r hi hj h1 h2 => ?_⟩
 · obtain ⟨h1, h2, h3⟩ := ok_dr (hall i v l hv hl2).1
   exact ⟨h1, h2, h3, hn l (List.mem_of_getElem? hl2)⟩
 · rcases Nat.lt_trichotomy i j with h3 | h3 | h3
   · exact (key i j l m r h3 hi hj h1 h2).elim
   · exact h3
   · exact (key j i m l r h3 hj hi h2 h1).elim
theorem ok_may {S : St} (h : Ok S) : mayS S = true := by
 refine mayS_iff.2 ⟨h.cnt, h.len, fun i v l hv hl => ?_⟩
 obtain ⟨h1, h2, h3, -⟩ := h.dr i v l hv hl
 refine ⟨ok_of h1 h2 h3, offB_iff.2 fun s hs m hm => ?_⟩
 obtain ⟨j, hj, e⟩ := List.getElem_of_mem hm
 rw [List.length_take] at hj
 rw [List.getElem_take] at e
 cases h4 : noR s.1 m
 · have hg : S.rows[j]? = some m := by rw [← e]; exact List.getElem?_eq_getElem (by omega)
   have := h.one j i m l s.1 hg hl h4 (noR_of hs rfl)
   omega
 · rfl
def waysK (S : St) (r : Int) (k : Nat) : List (Int × Wy) :=
 match S.vs[k]?, S.rows[k]? with
 | some v, some l => (waysP v l S.t r (pairsL l.length)).map fun y => ((k : Int), y)
 | _, _ => []
theorem waysK_at {S : St} {r : Int} {k : Nat} {v : Vh} {l : List (Int × Int)} (hv : S.vs[k]? = some v) (hl : S.rows[k]? = some l) : waysK S r k = (waysP v l S.t r (pairsL l.length)).map fun y => ((k : Int), y) := by unfold waysK; rw [hv, hl]
def waysA (S : St) (r : Int) : Nat → List (Int × Wy)
 | 0 => []
 | k + 1 => waysA S r k ++ waysK S r k
def clearS (S : St) (r : Int) : Bool := inT S.t r && decide (whereV S.rows r < 0)
def waysS (S : St) (r : Int) : List (Int × Wy) := if (mayS S && clearS S r) = true then waysA S r S.vs.length else []
def lessQ (a b : Int × Wy) : Int × Wy := if b.2.n < a.2.n then b else a
def leastQ : List (Int × Wy) → Option (Int × Wy)
 | [] => none
 | y :: ys => some (ys.foldl lessQ y)
def joinQ : Option (Int × Wy) → Option (Int × Wy) → Option (Int × Wy)
 | none, y => y
 | some a, none => some a
 | some a, some b => some (lessQ a b)
theorem lessQ_lt {a b : Int × Wy} (h : b.2.n < a.2.n) : lessQ a b = b := if_pos h
theorem lessQ_ge {a b : Int × Wy} (h : ¬ b.2.n < a.2.n) : lessQ a b = a := if_neg h
theorem lessQ_assoc (a y b : Int × Wy) : lessQ (lessQ a y) b = lessQ a (lessQ y b) := by
 by_cases h1 : y.2.n < a.2.n
 · rw [lessQ_lt h1]
   by_cases h2 : b.2.n < y.2.n
   · rw [lessQ_lt h2, lessQ_lt (by omega)]
   · rw [lessQ_ge h2, lessQ_lt h1]
 · rw [lessQ_ge h1]
   by_cases h2 : b.2.n < y.2.n
   · rw [lessQ_lt h2]
   · rw [lessQ_ge h2, lessQ_ge h1, lessQ_ge (by omega)]
theorem fold_join : ∀ (ys : List (Int × Wy)) (a : Int × Wy), some (ys.foldl lessQ a) = joinQ (some a) (leastQ ys)
 | [], a => rfl
 | y :: ys, a => by
  have h1 := fold_join ys (lessQ a y)
  have h2 := fold_join ys y
  show some (ys.foldl lessQ (lessQ a y)) = some (lessQ a (ys.foldl lessQ y))
  rw [h1]
  cases h3 : leastQ ys with
  | none =>
   rw [h3] at h2
   have : ys.foldl lessQ y = y := Option.some.inj h2
   rw [this]
   rfl
  | some b =>
   rw [h3] at h2
   have : ys.foldl lessQ y = lessQ y b := Option.some.inj h2
   rw [this, ← lessQ_assoc]
   rfl
theorem least_append : ∀ (xs ys : List (Int × Wy)), leastQ (xs ++ ys) = joinQ (leastQ xs) (leastQ ys)
 | [], ys => rfl
 | x :: xs, ys => by
  show some ((xs ++ ys).foldl lessQ x) = joinQ (some (xs.foldl lessQ x)) (leastQ ys)
  rw [List.foldl_append]
  exact fold_join ys _
theorem fold_pair (k : Int) : ∀ (ws : List Wy) (w : Wy), (ws.map fun y => (k, y)).foldl lessQ (k, w) = (k, ws.foldl lessW w)
 | [], w => rfl
 | y :: ws, w => by
  show (ws.map fun y => (k, y)).foldl lessQ (lessQ (k, w) (k, y)) = (k, ws.foldl lessW (lessW w y))
  have : lessQ (k, w) (k, y) = (k, lessW w y) := by
   unfold lessQ lessW
   by_cases h : y.n < w.n
   · rw [if_pos h, if_pos h]
   · rw [if_neg h, if_neg h]
  rw [this]
  exact fold_pair k ws _
theorem least_pair (k : Int) {ws : List Wy} (hs : Small ws) (hn : ws ≠ []) : leastQ (ws.map fun y => (k, y)) = some (k, leastW ws) := by
 cases ws with
 | nil => exact absurd rfl hn
 | cons w ws =>
  rw [least_head (hs w (by simp))]
  show some ((ws.map fun y => (k, y)).foldl lessQ (k, w)) = _
  rw [fold_pair]
theorem ways_none {v : Vh} {l : List (Int × Int)} {t : List Rq} {r : Int} (hd : Feas.Dr v l t) (he : errT v l t = 0) (hb : bestE v l t r ≠ 0) : waysP v l t r (pairsL l.length) = [] := by
 apply Classical.byContradiction
 intro hn
 obtain ⟨y, hy⟩ := List.exists_mem_of_ne_nil _ hn
 have hz := withE_zero (riseE_zero (waysP_mem hy).2.1).1
 have hin := hz.1
 have h2 := hin
 simp only [Bool.and_eq_true] at h2
 have hi := inT_iff.1 h2.1
 have hq : reqC t r = 0 := by
  obtain ⟨R, rfl⟩ : ∃ R : Nat, r = R := ⟨r.toNat, by omega⟩
  have hlt : R < t.length := by omega
  rw [reqC_at (List.getElem?_eq_getElem hlt)]
  exact hd.ht _ (List.getElem_mem hlt)
 have hh : headE v l t r = 0 := by rw [head_right hd he, rightE_ok hin hq hd.hv he (by have := hz.2.2.1; omega)]
 refine hb (bestE_ok hh ?_)
 unfold eachL
 rw [if_pos hh]
 exact hn
theorem ways_some {v : Vh} {l : List (Int × Int)} {t : List Rq} {r : Int} (hb : bestE v l t r = 0) : waysP v l t r (pairsL l.length) ≠ [] ∧ leastW (waysP v l t r (pairsL l.length)) = bestW v l t r := by
 have hz := bestE_zero hb
 have e : eachL v l t r = waysP v l t r (pairsL l.length) := by unfold eachL; rw [if_pos hz.1]
 rw [bestW_ok hb, ← e]
 exact ⟨hz.2, rfl⟩
def wayAt (S : St) (r : Int) (i : Int) : Wy :=
 match S.vs[i.toNat]?, S.rows[i.toNat]? with
 | some v, some l => bestW v l S.t r
 | _, _ => ⟨0, 0, 0⟩
theorem wayAt_at {S : St} {r : Int} {i : Nat} {v : Vh} {l : List (Int × Int)} (hv : S.vs[i]? = some v) (hl : S.rows[i]? = some l) : wayAt S r i = bestW v l S.t r := by unfold wayAt; rw [Int.toNat_natCast, hv, hl]
def accQ (S : St) (r : Int) (k : Nat) : Option (Int × Wy) := if (accP (bestF S r) k).1 < 0 then none else some ((accP (bestF S r) k).1, wayAt S r (accP (bestF S r) k).1)
theorem accQ_none {S : St} {r : Int} {k : Nat} (h : (accP (bestF S r) k).1 < 0) : accQ S r k = none := if_pos h
theorem accQ_some {S : St} {r : Int} {k : Nat} (h : ¬ (accP (bestF S r) k).1 < 0) : accQ S r k = some ((accP (bestF S r) k).1, wayAt S r (accP (bestF S r) k).1) := if_neg h
theorem acc_n {S : St} {r : Int} {k : Nat} (h : ¬ (accP (bestF S r) k).1 < 0) : (wayAt S r (accP (bestF S r) k).1).n = (accP (bestF S r) k).2 := by
 rcases acc_is (bestF S r) k with ⟨e, -⟩ | ⟨i, n, hi, e, hf, -, -⟩
 · rw [e] at h; exact absurd (by decide) h
 · rw [e]
   show (wayAt S r (i : Int)).n = n
   unfold bestF at hf
   split at hf
   · rename_i v l hv hl
     split at hf
     · rw [wayAt_at hv hl]
       exact Option.some.inj hf
     · cases hf
   · cases hf
theorem least_acc {S : St} (h : Ok S) (r : Int) : ∀ k, k ≤ S.vs.length → leastQ (waysA S r k) = accQ S r k
 | 0, _ => by rw [accQ_none (by show (-1 : Int) < 0; decide)]; rfl
 | k + 1, hk => by
  have ih := least_acc h r k (by omega)
  have hv : S.vs[k]? = some S.vs[k] := List.getElem?_eq_getElem (by omega)
  have hr : k < S.rows.length := by rw [h.len]; omega
  have hl : S.rows[k]? = some S.rows[k] := List.getElem?_eq_getElem hr
  obtain ⟨hd, he, -, -⟩ := h.dr k _ _ hv hl
  show leastQ (waysA S r k ++ waysK S r k) = _
  rw [least_append, ih, waysK_at hv hl]
  have hf := bestF_at (r := r) hv hl
  by_cases hb : bestE S.vs[k] S.rows[k] S.t r = 0
  · rw [if_pos hb] at hf
    obtain ⟨h1, h2⟩ := ways_some hb
    rw [least_pair k (ways_small _ _ _ _ _) h1, h2]
    by_cases hA : (accP (bestF S r) k).1 < 0
    · have e := acc_take hf (.inl hA)
      rw [accQ_none hA, accQ_some (by rw [e]; show ¬ (k : Int) < 0; omega), e]
      show some ((k : Int), _) = some ((k : Int), wayAt S r (k : Int))
      rw [wayAt_at hv hl]
    · have hn := acc_n hA
      rw [accQ_some hA]
      by_cases hB : (bestW S.vs[k] S.rows[k] S.t r).n < (accP (bestF S r) k).2
      · have e := acc_take hf (.inr hB)
        rw [accQ_some (by rw [e]; show ¬ (k : Int) < 0; omega), e]
        show some (lessQ _ _) = some ((k : Int), wayAt S r (k : Int))
        rw [lessQ_lt (by show _ < (wayAt S r _).n; rw [hn]; exact hB), wayAt_at hv hl]
      · have e := acc_leave hf (fun hc => hc.elim hA hB)
        rw [accQ_some (by rw [e]; exact hA), e]
        show some (lessQ _ _) = _
        rw [lessQ_ge (by show ¬ _ < (wayAt S r _).n; rw [hn]; exact hB)]
  · rw [if_neg hb] at hf
    rw [ways_none hd he hb]
    have e := acc_skip hf
    show joinQ (accQ S r k) none = _
    have e2 : accQ S r (k + 1) = accQ S r k := by unfold accQ; rw [e]
    rw [e2]
    cases accQ S r k <;> rfl
theorem least_price {S : St} (h : Ok S) (r : Int) : leastQ (waysS S r) = if priceE S r = 0 then some (priceI S r, wayAt S r (priceI S r)) else none := by
 unfold waysS clearS
 rw [ok_may h, Bool.true_and]
 cases hin : inT S.t r
 · rw [if_neg (by simp), if_neg (by rw [priceE_stop hin]; decide)]
   rfl
 by_cases hw : whereV S.rows r < 0
 · rw [if_pos (by simp [hw]), least_acc h r _ (Nat.le_refl _)]
   by_cases hA : (accP (bestF S r) S.vs.length).1 < 0
   · rw [accQ_none hA, if_neg (by rw [priceE_none hin hw hA]; decide)]
   · have he := priceE_ok hin hw hA
     rw [accQ_some hA, if_pos he, (price_yes he).1]
 · rw [if_neg (by simp [hw]), if_neg (by rw [priceE_twice hin (by omega)]; decide)]
   rfl
def bruteN (S : St) (r : Int) : Int := match leastQ (waysS S r) with
 | none => 4294967296
 | some w => w.2.n
theorem brute_price {S : St} (h : Ok S) (r : Int) : bruteN S r = if priceE S r = 0 then priceN S r else 4294967296 := by
 unfold bruteN
 rw [least_price h]
 by_cases he : priceE S r = 0
 · rw [if_pos he, if_pos he]
   obtain ⟨i, v, l, h1, h2, h3, -, h5⟩ := price_at he
   show (wayAt S r (priceI S r)).n = _
   rw [h1, wayAt_at h2 h3, h5]
 · rw [if_neg he, if_neg he]
theorem ways_no {S : St} {r : Int} (h : mayS S = false) : waysS S r = [] := by unfold waysS; rw [h]; rfl
theorem ways_out {S : St} {r : Int} (h : clearS S r = false) : waysS S r = [] := by unfold waysS; rw [h, Bool.and_false]; rfl
theorem ways_yes {S : St} {r : Int} (h : mayS S = true) (h2 : clearS S r = true) : waysS S r = waysA S r S.vs.length := by unfold waysS; rw [h, h2]; rfl
end Go.Proofs.YteclpblfleakhaaGreatDoor.Price
namespace Go.Proofs.YteclpblfleakhaaGreatDoor.Plan
open Go.RowKit Go.Proofs.YteclpblfleakhaaGreatDoor.Mem Go.Proofs.YteclpblfleakhaaGreatDoor.Route Go.Proofs.YteclpblfleakhaaGreatDoor.When Go.Proofs.YteclpblfleakhaaGreatDoor.Load
set_option linter.unusedVariables false
structure Chg (D : Nat → Prop) (W W' : World) : Prop where
 os : W'.os = W.os
 tape : W'.tape = W.tape
 output : W'.output = W.output
 size : W.heap.size ≤ W'.heap.size
 block : ∀ k, k < W.heap.size → ¬ D k → W'.heap[k]? = W.heap[k]?
theorem Chg.refl (D : Nat → Prop) (W : World) : Chg D W W := ⟨rfl, rfl, rfl, Nat.le_refl _, fun _ _ _ => rfl⟩
theorem Chg.trans {D : Nat → Prop} {A B C : World} (h : Chg D A B) (k : Chg D B C) : Chg D A C :=
 ⟨k.os.trans h.os, k.tape.trans h.tape, k.output.trans h.output, Nat.le_trans h.size k.size, fun i hi hD => (k.block i (Nat.lt_of_lt_of_le hi h.size) hD).trans (h.block i hi hD)⟩
theorem Chg.mono {D E : Nat → Prop} {A B : World} (h : Chg D A B) (hE : ∀ k, D k → E k) : Chg E A B := ⟨h.os, h.tape, h.output, h.size, fun i hi hD => h.block i hi (fun hd => hD (hE i hd))⟩
theorem Chg.of_below {D : Nat → Prop} {A B : World} (h : Below A.heap.size A B) : Chg D A B := ⟨h.os, h.tape, h.output, h.size, fun i hi _ => h.block i hi⟩
theorem Chg.of_grown {D : Nat → Prop} {A B : World} {row : Option Nat} (h : A.grownBy B row) (hr : ∀ r, row = some r → D r) : Chg D A B := ⟨h.os, h.tape, h.output, h.size, fun i hi hD => h.block i hi (fun e => hD (hr i e.symm))⟩
theorem Chg.set {D : Nat → Prop} (A : World) {g : Nat} (hg : D g) (i : Nat) (x : Value) : Chg D A (A.setCell ⟨g, i, none⟩ x) := ⟨rfl, rfl, rfl, by simp, fun k hk hD => Below.heap_setCell _ _ _ _ (by show k ≠ g; rintro rfl; exact hD hg)⟩
theorem Chg.below {D : Nat → Prop} {A B : World} (h : Chg D A B) {n : Nat} (hn : n ≤ A.heap.size) (hD : ∀ k, D k → n ≤ k) : Below n A B := ⟨h.os, h.tape, h.output, h.size, fun k hk => h.block k (by omega) (fun hd => by have := hD k hd; omega)⟩
theorem Chg.at_ {D : Nat → Prop} {A B : World} (h : Chg D A B) {g : Nat} {t : TypeId} {cs : Array Value} (hA : At A g t cs) (hg : ¬ D g) : At B g t cs := (h.block g hA.inside hg).trans hA
def Off (D : Nat → Prop) (v : Value) : Prop := ∀ g, v.ownBlock = some g → ¬ D g
theorem Off.mono {D E : Nat → Prop} {v : Value} (h : Off D v) (hE : ∀ k, E k → D k) : Off E v := fun g e hd => h g e (hE g hd)
theorem Chg.owns {D : Nat → Prop} {A B : World} (h : Chg D A B) {base size n : Nat} {e : TypeId} {v : Value} {xs : List Value} (ho : A.ownsRow base e size v n xs) (hv : Off D v) : B.ownsRow base e size v n xs := by
 obtain ⟨hl, h1 | ⟨g, cap, cur, rfl, hb, hg, hr⟩⟩ := ho
 · exact ⟨hl, .inl h1⟩
 · exact ⟨hl, .inr ⟨g, cap, cur, rfl, hb, (h.block g (Array.getElem?_eq_some_iff.1 hg).1 (hv g rfl)).trans hg, hr⟩⟩
def RowD (D : Nat → Prop) (W : World) (v : Value) (m : Nat) (rows : List (List Value)) : Prop := RowB W.heap.size W v m rows ∧ (rows ≠ [] → Off D v)
theorem RowD.chg {D E : Nat → Prop} {A B : World} {v : Value} {m : Nat} {rows : List (List Value)} (h : RowD D A v m rows) (hc : Chg E A B) (hE : ∀ k, E k → D k) : RowD D B v m rows := by
 obtain ⟨⟨x, cap, rfl, h1, h2, h0, h3⟩, ho⟩ := h
 refine ⟨⟨x, cap, rfl, h1, h2, h0, fun j r hj => ?_⟩, ho⟩
 obtain ⟨g, o, rfl, hg, hcell⟩ := h3 j r hj
 have hne : rows ≠ [] := by rintro rfl; simp at hj
 have hgD : ¬ E g := fun he => ho hne g rfl (hE g he)
 refine ⟨g, o, rfl, Nat.lt_of_lt_of_le hg hc.size, fun k u hk => ?_⟩
 rw [World.cell?_of_block (a := ⟨g, o + j * m + k, none⟩) (hc.block g hg hgD)]
 exact hcell k u hk
theorem RowD.more {D E : Nat → Prop} {A : World} {v : Value} {m : Nat} {rows : List (List Value)} (h : RowD D A v m rows) (hE : ∀ k, E k → D k ∨ A.heap.size ≤ k) : RowD E A v m rows := by
 refine ⟨h.1, fun hne g e he => ?_⟩
 rcases hE g he with hd | hd
 · exact h.2 hne g e hd
 · obtain ⟨x, cap, rfl, h1, h2, h0, h3⟩ := h.1
   cases rows with
   | nil => exact hne rfl
   | cons r rs =>
    obtain ⟨g', o, rfl, hg, -⟩ := h3 0 r rfl
    simp [Value.ownBlock] at e
    omega
theorem RowD.nil (D : Nat → Prop) (A : World) (m : Nat) : RowD D A (.slice none 0 0) m [] := ⟨RowB.nil _ _ _, fun h => absurd rfl h⟩
theorem RowD.new {D : Nat → Prop} {W : World} {v : Value} {m : Nat} {rows : List (List Value)} (h : RowB W.heap.size W v m rows) {n : Nat} (hn : ∀ r, v.ownBlock = some r → n ≤ r) (hD : ∀ k, D k → k < n) : RowD D W v m rows :=
 ⟨h, fun _ g e hd => by have := hn g e; have := hD g hd; omega⟩
def vhV (v : Vh) : List Value := [.int .i64 v.hx, .int .i64 v.hy, .int .i64 v.cp, .int .i64 v.st, .int .i64 v.en]
def Vhs (B : Nat) (W : World) (v : Value) (l : List Vh) : Prop := RowB B W v 5 (l.map vhV)
theorem Vhs.at {B : Nat} {W : World} {x : Option Addr} {n cap : Nat} {t : List Vh} (h : Vhs B W (.slice x n cap) t) {k : Nat} {q : Vh} (hk : t[k]? = some q) :
 ∃ g o, x = some ⟨g, o, none⟩ ∧ g < B ∧ (W.cell? ⟨g, o + k * 5, none⟩ = some (.int .i64 q.hx) ∧ W.cell? ⟨g, o + k * 5 + 1, none⟩ = some (.int .i64 q.hy) ∧ W.cell? ⟨g, o + k * 5 + 2, none⟩ = some (.int .i64 q.cp) ∧ W.cell? ⟨g, o + k * 5 + 3, none⟩ = some (.int .i64 q.st) ∧ W.cell? ⟨g, o + k * 5 + 4, none⟩ = some (.int .i64 q.en)) := by
 obtain ⟨g, o, e, hg, hc⟩ := RowB.row h (j := k) (r := vhV q) (by rw [List.getElem?_map, hk]; rfl)
 exact ⟨g, o, e, hg, hc 0 _ rfl, hc 1 _ rfl, hc 2 _ rfl, hc 3 _ rfl, hc 4 _ rfl⟩
theorem Vhs.opened {B : Nat} {W : World} {v : Value} {t : List Vh} (h : Vhs B W v t) : ∃ x N cap, v = .slice x N cap ∧ t.length = N ∧ N ≤ cap ∧ cap ≤ maxLen ∧ (x = none → t = []) := by
 obtain ⟨x, cap, rfl, h1, h2, h0, _⟩ := h
 refine ⟨x, t.length, cap, by simp, rfl, by simpa using h1, h2, fun e => ?_⟩
 have := h0 e
 simpa using this.1
theorem Vhs.keep {B C : Nat} {W W' : World} {v : Value} {l : List Vh} (h : Vhs B W v l) (hb : Below C W W') (hB : B ≤ C) : Vhs B W' v l := RowB.keep h hb hB
theorem Vhs.on {W W' : World} {v : Value} {l : List Vh} (h : Vhs W.heap.size W v l) (hb : Below W.heap.size W W') : Vhs W'.heap.size W' v l := RowB.on h hb
end Go.Proofs.YteclpblfleakhaaGreatDoor.Plan
namespace Go.Proofs.YteclpblfleakhaaGreatDoor.Plan
open Go.RowKit Go.Sort Go.Proofs.YteclpblfleakhaaGreatDoor.Mem Go.Proofs.YteclpblfleakhaaGreatDoor.Route Go.Proofs.YteclpblfleakhaaGreatDoor.When
set_option linter.unusedVariables false
def Rws (B : Nat) (W : World) (v : Value) (ls : List (List (Int × Int))) : Prop :=
 ∃ us : List Value, us.length = ls.length ∧ RowB B W v 1 (us.map fun u => [u]) ∧ ∀ (i : Nat) u l, us[i]? = some u → ls[i]? = some l → Row B W u l
theorem Rws.keep {B C : Nat} {W W' : World} {v : Value} {ls : List (List (Int × Int))} (h : Rws B W v ls) (hb : Below C W W') (hB : B ≤ C) : Rws B W' v ls := by
 obtain ⟨us, h1, h2, h3⟩ := h
 exact ⟨us, h1, h2.keep hb hB, fun i u l hu hl => (h3 i u l hu hl).keep hb hB⟩
theorem Rws.more {B C : Nat} {W : World} {v : Value} {ls : List (List (Int × Int))} (h : Rws B W v ls) (hB : B ≤ C) : Rws C W v ls := by
 obtain ⟨us, h1, h2, h3⟩ := h
 exact ⟨us, h1, h2.more hB, fun i u l hu hl => (h3 i u l hu hl).more hB⟩
theorem Rws.on {W W' : World} {v : Value} {ls : List (List (Int × Int))} (h : Rws W.heap.size W v ls) (hb : Below W.heap.size W W') : Rws W'.heap.size W' v ls := (h.keep hb (Nat.le_refl _)).more hb.size
theorem Rws.opened {B : Nat} {W : World} {v : Value} {ls : List (List (Int × Int))} (h : Rws B W v ls) : ∃ x N cap, v = .slice x N cap ∧ ls.length = N ∧ N ≤ cap ∧ cap ≤ maxLen := by
 obtain ⟨us, h1, ⟨x, cap, rfl, h2, h4, h0, _⟩, h3⟩ := h
 exact ⟨x, ls.length, cap, by simp [h1], rfl, by simpa [h1] using h2, h4⟩
theorem Rws.at {B : Nat} {W : World} {x : Option Addr} {n cap : Nat} {ls : List (List (Int × Int))} (h : Rws B W (.slice x n cap) ls) {k : Nat} {l : List (Int × Int)} (hk : ls[k]? = some l) : ∃ g o u, x = some ⟨g, o, none⟩ ∧ g < B ∧ W.cell? ⟨g, o + k, none⟩ = some u ∧ Row B W u l := by
 obtain ⟨us, h1, h2, h3⟩ := h
 have hi := (List.getElem?_eq_some_iff.1 hk).1
 have hu : us[k]? = some (us[k]'(by omega)) := List.getElem?_eq_getElem (by omega)
 obtain ⟨g, o, e, hg, hc⟩ := RowB.row h2 (j := k) (r := [us[k]'(by omega)]) (by rw [List.getElem?_map, hu]; rfl)
 have := hc 0 _ rfl
 exact ⟨g, o, _, e, hg, by simpa using this, h3 k _ l hu hk⟩
end Go.Proofs.YteclpblfleakhaaGreatDoor.Plan
namespace Go.Proofs.YteclpblfleakhaaGreatDoor.Up
open Go.RowKit
set_option linter.unusedVariables false
def GoOnH {α : Type} (P : Program) (body : Code) (n : Nat) (I : List α → World → Prop) (pre : List α) (x : α) (W : World) (a' : Act) (Wa : World) : Prop :=
 W.grownBy Wa none ∧ ∀ V, V.heap.size = Wa.heap.size → (∀ k, k ≠ n + 1 → V.heap[k]? = Wa.heap[k]?) → (∃ r, V.heap[n + 1]? = some (.loop r)) → I pre V →
  body.wpIn (Fence.wide.inRound (n + 1)) 1 P (upPost true fun W' => I (pre ++ [x]) W' ∧ Held n V W') a' V
set_option maxHeartbeats 1000000 in
theorem rangesRoundH {α : Type} {P : Program} {g : Operand} {ps : Array Tmp} {assign body : Code} {Q : Exit → Act → World → Prop} {a : Act} {w : World}
 {gf : Nat} {fst lb : Array Value} (hg : a.eval g = .func (.func gf) fst lb) (eg : ∀ args w, (callFunc gf args).run P w = .ok (.enter gf args) w)
 {encs : α → Array Value} {xs : List α} (hps : ∀ x, (encs x).size = ps.size) (I : List α → World → Prop) (hI : Old w.heap.size I) (h0 : I [] w) (hseq : Runs2 P gf fst lb encs (fun _ => true) xs (w.heap.size + 2) I)
 (hround : ∀ (pre : List α) (x : α) (W : World), (∃ rest, xs = pre ++ x :: rest) → w.heap.size + 2 ≤ W.heap.size → I pre W →
  assign.wpIn (Fence.wide.inRound (w.heap.size + 1)) 1 P (Exit.then (GoOnH P body w.heap.size I pre x W) (fun _ _ _ => False)) { tmps := (ps.zip (encs x)).foldl (fun t (p, v) => t.setIfInBounds p v) a.tmps, defers := [] } W)
 (hdone : ∀ (W : World), w.heap.size + 2 ≤ W.heap.size → I xs W → W.heap[w.heap.size]? = some (.deferred (some [])) → Q .normal { a with defers := { target := .collected w.heap.size, args := #[] } :: a.defers } W) :
 (Code.rangeFunc g ps assign body).wpIn Fence.wide 3 P Q a w := by
 refine wpIn_rangeFunc fun fn hfn => ?_
 let rec_ : LoopState → Loop := fun st => { state := st, pending := none, fn, tmps := a.tmps, params := ps, assign, body, defers := w.heap.size }
 let W1 : World := (w.alloc (.deferred (some []))).alloc (.loop (rec_ .ready))
 have hs1 : W1.heap.size = w.heap.size + 2 := by simp [W1]
 have hL : W1.heap[w.heap.size + 1]? = some (.loop (rec_ .ready)) := by
  have h := World.alloc_heap_new (w.alloc (.deferred (some []))) (.loop (rec_ .ready))
  rwa [World.size_alloc] at h
 have hD : W1.heap[w.heap.size]? = some (.deferred (some [])) := (Below.heap_alloc _ _ _ (by simp)).trans (World.alloc_heap_new w _)
 have hI1 : I [] W1 := hI.new (hI.new h0 _) _
 let J : List α → World → Prop := fun pre W => I pre W ∧ W.heap[w.heap.size + 1]? = some (.loop (rec_ .ready)) ∧ W.heap[w.heap.size]? = some (.deferred (some [])) ∧ w.heap.size + 2 ≤ W.heap.size
 refine ⟨w.heap.size + 1, [{ target := .collected w.heap.size, args := #[] }], W1, { target := .fn (.func gf) lb, args := fst ++ #[.func (.yield (w.heap.size + 1)) #[] #[]] }, W1, gf,
  fst ++ #[.func (.yield (w.heap.size + 1)) #[] #[]] ++ lb, W1, run_enterLoop_outer _ _ _ _ _, ?_, fun _ _ => trivial, by simp [invoke, go_sem, eg], fun _ => by omega, ?_⟩
 · simp only [resolve, hg]
   simp [go_sem]
 · refine (hseq (w.heap.size + 1) J W1 hs1 ⟨hI1, hL, hD, by omega⟩ ?_ (fun s A h => h.1) ?_).mono ?_
   · rintro s A A' row ⟨h1, h2, h3, h4⟩ hgr hr
     have hb : ∀ k, k < w.heap.size + 2 → A'.heap[k]? = A.heap[k]? := fun k hk => hgr.block k (by omega) (fun e => by have := (hr k e.symm).1; omega)
     exact ⟨hI s A A' row h1 hgr (fun r e => ⟨by have := (hr r e).1; omega, (hr r e).2⟩), (hb _ (by omega)).trans h2, (hb _ (by omega)).trans h3, Nat.le_trans h4 hgr.size⟩
   · rintro m pre x W hxr ⟨h1, h2, h3, h4⟩ hgood _
     refine yieldAny (m := 1) m ⟨fn, _, assign, body, run_yield h2 (hps x), roundIn_of_wpIn hfn (wpIn_mono (hround pre x W hxr h4 h1) ?_)⟩
     rintro ex a' Wa hex
     cases ex with
     | normal => ?_
     | _ => exact hex.elim
     obtain ⟨hga, hgo⟩ := hex
     have ka : Kept w.heap.size W Wa := .grown hga (fun r e => by cases e)
     have h2a := (ka.same _ (by omega) (by omega)).trans h2
     have h3a := (ka.same _ (by omega) (by omega)).trans h3
     have h4a := ka.size
     refine ⟨Wa.putObj (w.heap.size + 1) (.loop { rec_ .ready with state := .busy }), run_beginRound h2a rfl, ?_⟩
     have hl2 : (Wa.putObj (w.heap.size + 1) (.loop { rec_ .ready with state := .busy })).heap[w.heap.size + 1]? = some (.loop { rec_ .ready with state := .busy }) := World.putObj_heap_same (by omega)
     have hk2 := (World.putObj_heap_other (w := Wa) (o := .loop { rec_ .ready with state := .busy }) (show w.heap.size ≠ w.heap.size + 1 by omega)).trans h3a
     refine wpIn_mono (hgo (Wa.putObj (w.heap.size + 1) (.loop { rec_ .ready with state := .busy })) (by simp) (fun k hk => World.putObj_heap_other hk) ⟨_, hl2⟩ (hI _ _ _ _ (hI _ _ _ _ h1 hga (fun r e => by cases e)) (grownBy_putObj' Wa _ _) (fun r e => by cases e; exact ⟨by omega, _, h2a, rfl⟩))) ?_
     rintro e a3 W3 hp
     cases e with
     | normal =>
      obtain ⟨-, hi3, hk3⟩ := hp
      have hl3 := hk3.b.trans hl2
      have hd3 := hk3.a.trans hk2
      have hz3 : w.heap.size + 2 ≤ W3.heap.size := Nat.le_trans (by simp; omega) hk3.size
      refine ⟨_, _, run_endRound none hl3, rfl, ⟨hI _ _ _ _ hi3 (grownBy_putObj' W3 _ _) (fun r e => by cases e; exact ⟨by omega, _, hl3, rfl⟩), World.putObj_heap_same (by omega), (World.putObj_heap_other (by omega)).trans hd3, by simp; omega⟩, ?_⟩
      exact Nat.le_trans ka.size (Nat.le_trans (by simp) (Nat.le_trans hk3.size (by simp)))
     | ret => exact Bool.noConfusion hp.1
     | _ => exact hp.elim
   · rintro e W2 ⟨⟨v, rfl⟩, hi, hl, hk, hz⟩
     rw [upTo_all (fun _ _ => rfl)] at hi
     exact ⟨none, _, run_endLoop hl (by simp [rec_]), hdone _ (by simp; omega) (hI _ _ _ _ hi (grownBy_putObj' W2 _ _) (fun r e => by cases e; exact ⟨by omega, _, hl, rfl⟩)) ((World.putObj_heap_other (by omega)).trans hk)⟩
structure Held1 (n : Nat) (W W' : World) : Prop where
 size : W.heap.size ≤ W'.heap.size
 a : W'.heap[n]? = W.heap[n]?
theorem Held1.refl (n : Nat) (W : World) : Held1 n W W := ⟨Nat.le_refl _, rfl⟩
theorem Held1.trans {n : Nat} {X Y Z : World} (h : Held1 n X Y) (k : Held1 n Y Z) : Held1 n X Z := ⟨Nat.le_trans h.size k.size, k.a.trans h.a⟩
theorem Held1.grown {n : Nat} {W W' : World} {row : Option Nat} (h : W.grownBy W' row) (hn : n < W.heap.size) (hr : ∀ r, row = some r → r ≠ n) : Held1 n W W' :=
 ⟨h.size, h.block n hn (fun e => hr n e.symm rfl)⟩
theorem Held1.setCell {n : Nat} (W : World) {b i : Nat} (h1 : b ≠ n) (v : Value) : Held1 n W (W.setCell ⟨b, i, none⟩ v) :=
 ⟨by simp, Below.heap_setCell W _ v n (by simp; omega)⟩
def GoOnN {α : Type} (P : Program) (body : Code) (n : Nat) (I : List α → World → Prop) (pre : List α) (x : α) (W : World) (a' : Act) (Wa : World) : Prop :=
 W.grownBy Wa none ∧ ∀ V, V.heap.size = Wa.heap.size → (∀ k, k ≠ n → V.heap[k]? = Wa.heap[k]?) → I pre V →
  body.wpIn (Fence.wide.inRound n) 1 P (upPost true fun W' => I (pre ++ [x]) W' ∧ Held1 n V W') a' V
set_option maxHeartbeats 1000000 in
theorem rangesRoundN {α : Type} {P : Program} {g : Operand} {ps : Array Tmp} {assign body : Code} {Q : Exit → Act → World → Prop} {a : Act} {w : World} {l₀ m₀ : Nat} (hl₀ : ∃ r₀, w.heap[l₀]? = some (.loop r₀))
 {gf : Nat} {fst lb : Array Value} (hg : a.eval g = .func (.func gf) fst lb) (eg : ∀ args w, (callFunc gf args).run P w = .ok (.enter gf args) w)
 {encs : α → Array Value} {xs : List α} (hps : ∀ x, (encs x).size = ps.size) (I : List α → World → Prop) (hI : Old w.heap.size I) (h0 : I [] w) (hseq : Runs2 P gf fst lb encs (fun _ => true) xs (w.heap.size + 1) I)
 (hround : ∀ (pre : List α) (x : α) (W : World), (∃ rest, xs = pre ++ x :: rest) → w.heap.size + 1 ≤ W.heap.size → I pre W →
  assign.wpIn (Fence.wide.inRound w.heap.size) 1 P (Exit.then (GoOnN P body w.heap.size I pre x W) (fun _ _ _ => False)) { tmps := (ps.zip (encs x)).foldl (fun t (p, v) => t.setIfInBounds p v) a.tmps, defers := [] } W)
 (hdone : ∀ (W : World), w.heap.size + 1 ≤ W.heap.size → I xs W → Q .normal a W) :
 (Code.rangeFunc g ps assign body).wpIn (Fence.wide.inRound l₀) m₀ P Q a w := by
 obtain ⟨r₀, hl₀⟩ := hl₀
 refine wpIn_rangeFunc fun fn hfn => ?_
 let rec_ : LoopState → Loop := fun st => { state := st, pending := none, fn, tmps := a.tmps, params := ps, assign, body, defers := r₀.defers }
 let W1 : World := w.alloc (.loop (rec_ .ready))
 have hs1 : W1.heap.size = w.heap.size + 1 := by simp [W1]
 have hL : W1.heap[w.heap.size]? = some (.loop (rec_ .ready)) := World.alloc_heap_new w _
 have hI1 : I [] W1 := hI.new h0 _
 let J : List α → World → Prop := fun pre W => I pre W ∧ W.heap[w.heap.size]? = some (.loop (rec_ .ready)) ∧ w.heap.size + 1 ≤ W.heap.size
 refine ⟨w.heap.size, [], W1, { target := .fn (.func gf) lb, args := fst ++ #[.func (.yield w.heap.size) #[] #[]] }, W1, gf,
  fst ++ #[.func (.yield w.heap.size) #[] #[]] ++ lb, W1, run_enterLoop_inner hl₀ _ _ _ _ _, ?_, fun _ _ => trivial, by simp [invoke, go_sem, eg], fun h => by simp [Fence.wide, Fence.inRound] at h, ?_⟩
 · simp only [resolve, hg]
   simp [go_sem]
 · refine CallsIn.inRound l₀ (callsIn_wide.2 ((callsIn_wide (n := 2)).1 ((hseq w.heap.size J W1 hs1 ⟨hI1, hL, by omega⟩ ?_ (fun s A h => h.1) ?_).mono ?_)))
   · rintro s A A' row ⟨h1, h2, h4⟩ hgr hr
     have hb : ∀ k, k < w.heap.size + 1 → A'.heap[k]? = A.heap[k]? := fun k hk => hgr.block k (by omega) (fun e => by have := (hr k e.symm).1; omega)
     exact ⟨hI s A A' row h1 hgr (fun r e => ⟨by have := (hr r e).1; omega, (hr r e).2⟩), (hb _ (by omega)).trans h2, Nat.le_trans h4 hgr.size⟩
   · rintro m pre x W hxr ⟨h1, h2, h4⟩ hgood _
     refine yieldAny (m := 1) m ⟨fn, _, assign, body, run_yield h2 (hps x), roundIn_of_wpIn hfn (wpIn_mono (hround pre x W hxr h4 h1) ?_)⟩
     rintro ex a' Wa hex
     cases ex with
     | normal => ?_
     | _ => exact hex.elim
     obtain ⟨hga, hgo⟩ := hex
     have ka : Kept w.heap.size W Wa := .grown hga (fun r e => by cases e)
     have h2a := (ka.same _ (by omega) (by omega)).trans h2
     have h4a := ka.size
     refine ⟨Wa.putObj w.heap.size (.loop { rec_ .ready with state := .busy }), run_beginRound h2a rfl, ?_⟩
     have hl2 : (Wa.putObj w.heap.size (.loop { rec_ .ready with state := .busy })).heap[w.heap.size]? = some (.loop { rec_ .ready with state := .busy }) := World.putObj_heap_same (by omega)
     refine wpIn_mono (hgo (Wa.putObj w.heap.size (.loop { rec_ .ready with state := .busy })) (by simp) (fun k hk => World.putObj_heap_other hk) (hI _ _ _ _ (hI _ _ _ _ h1 hga (fun r e => by cases e)) (grownBy_putObj' Wa _ _) (fun r e => by cases e; exact ⟨by omega, _, h2a, rfl⟩))) ?_
     rintro e a3 W3 hp
     cases e with
     | normal =>
      obtain ⟨-, hi3, hk3⟩ := hp
      have hl3 := hk3.a.trans hl2
      have hz3 : w.heap.size + 1 ≤ W3.heap.size := Nat.le_trans (by simp; omega) hk3.size
      refine ⟨_, _, run_endRound none hl3, rfl, ⟨hI _ _ _ _ hi3 (grownBy_putObj' W3 _ _) (fun r e => by cases e; exact ⟨by omega, _, hl3, rfl⟩), World.putObj_heap_same (by omega), by simp; omega⟩, ?_⟩
      exact Nat.le_trans ka.size (Nat.le_trans (by simp) (Nat.le_trans hk3.size (by simp)))
     | ret => exact Bool.noConfusion hp.1
     | _ => exact hp.elim
   · rintro e W2 ⟨⟨v, rfl⟩, hi, hl, hz⟩
     rw [upTo_all (fun _ _ => rfl)] at hi
     exact ⟨none, _, run_endLoop hl (by simp [rec_]), hdone _ (by simp; omega) (hI _ _ _ _ hi (grownBy_putObj' W2 _ _) (fun r e => by cases e; exact ⟨by omega, _, hl, rfl⟩))⟩
end Go.Proofs.YteclpblfleakhaaGreatDoor.Up

import Derived.Test.YteclpblfleakhaaGreatDoorPkRouteLen

namespace Go.Proofs.YteclpblfleakhaaGreatDoor.Cheap
open Go.RowKit Go.Proofs.YteclpblfleakhaaGreatDoor.Order Go.Proofs.YteclpblfleakhaaGreatDoor.Place Go.Proofs.YteclpblfleakhaaGreatDoor.Route Go.Proofs.YteclpblfleakhaaGreatDoor.When Go.Proofs.YteclpblfleakhaaGreatDoor.Load Go.Proofs.YteclpblfleakhaaGreatDoor.Ins
set_option linter.unusedVariables false
structure Wy where
 (i j n : Int)
deriving DecidableEq
def encW (y : Wy) : Array Value := #[.int .i64 y.i, .int .i64 y.j, .int .i64 y.n]
def noW : Wy := ⟨-1, -1, 9223372036854775807⟩
def wayI (v : Vh) (l : List (Int × Int)) (t : List Rq) (r : Int) (y : Int × Int) : Option Wy := if riseE v l t r y.1 y.2 = 0 then some ⟨y.1, y.2, riseV v l t r y.1 y.2⟩ else none
def waysP (v : Vh) (l : List (Int × Int)) (t : List Rq) (r : Int) (ps : List (Int × Int)) : List Wy := ps.filterMap (wayI v l t r)
theorem waysP_snoc (v : Vh) (l : List (Int × Int)) (t : List Rq) (r : Int) (ps : List (Int × Int)) (y : Int × Int) : waysP v l t r (ps ++ [y]) = waysP v l t r ps ++ (wayI v l t r y).toList := by
 unfold waysP
 rw [List.filterMap_append]
 cases h : wayI v l t r y <;> simp [h]
theorem wayI_no {v : Vh} {l : List (Int × Int)} {t : List Rq} {r : Int} {y : Int × Int} (h : riseE v l t r y.1 y.2 ≠ 0) : wayI v l t r y = none := by unfold wayI; rw [if_neg h]
theorem wayI_yes {v : Vh} {l : List (Int × Int)} {t : List Rq} {r : Int} {y : Int × Int} (h : riseE v l t r y.1 y.2 = 0) : wayI v l t r y = some ⟨y.1, y.2, riseV v l t r y.1 y.2⟩ := by unfold wayI; rw [if_pos h]
def headE (v : Vh) (l : List (Int × Int)) (t : List Rq) (r : Int) : Int := if riseE v l t r 0 0 = 0 ∨ riseE v l t r 0 0 = 9 ∨ riseE v l t r 0 0 = 10 then 0 else riseE v l t r 0 0
def lessW (a b : Wy) : Wy := if b.n < a.n then b else a
def leastW (ws : List Wy) : Wy := ws.foldl lessW noW
theorem leastW_snoc (ws : List Wy) (y : Wy) : leastW (ws ++ [y]) = lessW (leastW ws) y := by simp [leastW]
theorem riseV_bd (v : Vh) (l : List (Int × Int)) (t : List Rq) (r i j : Int) : -3000000 ≤ riseV v l t r i j ∧ riseV v l t r i j ≤ 3000000 := by
 unfold riseV
 split
 · have h1 := homeT_bd v (moreL l r i j) t
   have h2 := homeT_bd v l t
   omega
 · omega
theorem waysP_mem {v : Vh} {l : List (Int × Int)} {t : List Rq} {r : Int} {ps : List (Int × Int)} {y : Wy} (h : y ∈ waysP v l t r ps) : (y.i, y.j) ∈ ps ∧ riseE v l t r y.i y.j = 0 ∧ y.n = riseV v l t r y.i y.j := by
 unfold waysP at h
 obtain ⟨p, hp, he⟩ := List.mem_filterMap.1 h
 unfold wayI at he
 split at he
 · cases he; exact ⟨hp, by assumption, rfl⟩
 · cases he
theorem least_of : ∀ (ws : List Wy) (a : Wy), (ws.foldl lessW a = a ∧ ∀ y ∈ ws, a.n ≤ y.n) ∨ ∃ p b q, ws = p ++ b :: q ∧ ws.foldl lessW a = b ∧ b.n < a.n ∧ (∀ y ∈ p, b.n < y.n) ∧ ∀ y ∈ q, b.n ≤ y.n
 | [], a => .inl ⟨rfl, fun y h => absurd h (by simp)⟩
 | w :: ws, a => by
  have ih := least_of ws (lessW a w)
  show ((ws.foldl lessW (lessW a w) = a ∧ _) ∨ ∃ p b q, _ ∧ ws.foldl lessW (lessW a w) = b ∧ _)
  by_cases hl : w.n < a.n
  · have e : lessW a w = w := by unfold lessW; rw [if_pos hl]
    rw [e] at ih ⊢
    right
    rcases ih with ⟨h1, h2⟩ | ⟨p, b, q, h1, h2, h3, h4, h5⟩
    · exact ⟨[], w, ws, rfl, h1, hl, fun y h => absurd h (by simp), h2⟩
    · refine ⟨w :: p, b, q, by rw [h1]; rfl, h2, by omega, ?_, h5⟩
      intro y hy
      rcases List.mem_cons.1 hy with rfl | hy
      · exact h3
      · exact h4 y hy
  · have e : lessW a w = a := by unfold lessW; rw [if_neg hl]
    rw [e] at ih ⊢
    rcases ih with ⟨h1, h2⟩ | ⟨p, b, q, h1, h2, h3, h4, h5⟩
    · left
      refine ⟨h1, ?_⟩
      intro y hy
      rcases List.mem_cons.1 hy with rfl | hy
      · omega
      · exact h2 y hy
    · right
      refine ⟨w :: p, b, q, by rw [h1]; rfl, h2, h3, ?_, h5⟩
      intro y hy
      rcases List.mem_cons.1 hy with rfl | hy
      · omega
      · exact h4 y hy
def Small (ws : List Wy) : Prop := ∀ y ∈ ws, y.n < 9223372036854775807
theorem least_none {ws : List Wy} (h : Small ws) : leastW ws = noW ↔ ws = [] := by
 constructor
 · intro e
   cases ws with
   | nil => rfl
   | cons w ws =>
    exfalso
    rcases least_of (w :: ws) noW with ⟨-, h2⟩ | ⟨p, b, q, h1, h2, h3, -, -⟩
    · have := h2 w (by simp)
      have := h w (by simp)
      simp only [noW] at *
      omega
    · unfold leastW at e
      rw [h2] at e
      rw [e] at h3
      omega
 · rintro rfl; rfl
theorem least_some {ws : List Wy} (h : Small ws) (hn : ws ≠ []) : ∃ p b q, ws = p ++ b :: q ∧ leastW ws = b ∧ (∀ y ∈ p, b.n < y.n) ∧ ∀ y ∈ q, b.n ≤ y.n := by
 rcases least_of ws noW with ⟨h1, -⟩ | ⟨p, b, q, h1, h2, h3, h4, h5⟩
 · exact absurd ((least_none h).1 h1) hn
 · exact ⟨p, b, q, h1, h2, h4, h5⟩
theorem least_head {w : Wy} {ws : List Wy} (h : w.n < 9223372036854775807) : leastW (w :: ws) = ws.foldl lessW w := by
 unfold leastW
 rw [List.foldl_cons]
 congr 1
 unfold lessW noW
 rw [if_pos h]
theorem ways_small (v : Vh) (l : List (Int × Int)) (t : List Rq) (r : Int) (ps : List (Int × Int)) : Small (waysP v l t r ps) := by
 intro y hy
 have h1 := (waysP_mem hy).2.2
 have h2 := riseV_bd v l t r y.i y.j
 omega
def eachL (v : Vh) (l : List (Int × Int)) (t : List Rq) (r : Int) : List Wy := if headE v l t r = 0 then waysP v l t r (pairsL l.length) else []
def bestE (v : Vh) (l : List (Int × Int)) (t : List Rq) (r : Int) : Int := if headE v l t r ≠ 0 then headE v l t r else if eachL v l t r = [] then 12 else 0
def bestW (v : Vh) (l : List (Int × Int)) (t : List Rq) (r : Int) : Wy := if bestE v l t r = 0 then leastW (eachL v l t r) else ⟨0, 0, 0⟩
theorem each_small (v : Vh) (l : List (Int × Int)) (t : List Rq) (r : Int) : Small (eachL v l t r) := by
 unfold eachL
 split
 · exact ways_small _ _ _ _ _
 · intro y h; cases h
theorem bestE_head {v : Vh} {l : List (Int × Int)} {t : List Rq} {r : Int} (h : headE v l t r ≠ 0) : bestE v l t r = headE v l t r := by unfold bestE; rw [if_pos h]
theorem bestE_none {v : Vh} {l : List (Int × Int)} {t : List Rq} {r : Int} (h : headE v l t r = 0) (h2 : eachL v l t r = []) : bestE v l t r = 12 := by unfold bestE; rw [if_neg (by omega), if_pos h2]
theorem bestE_ok {v : Vh} {l : List (Int × Int)} {t : List Rq} {r : Int} (h : headE v l t r = 0) (h2 : eachL v l t r ≠ []) : bestE v l t r = 0 := by unfold bestE; rw [if_neg (by omega), if_neg h2]
theorem bestE_zero {v : Vh} {l : List (Int × Int)} {t : List Rq} {r : Int} (h : bestE v l t r = 0) : headE v l t r = 0 ∧ eachL v l t r ≠ [] := by
 unfold bestE at h
 split at h
 · omega
 split at h
 · omega
 · exact ⟨by omega, by assumption⟩
theorem bestW_no {v : Vh} {l : List (Int × Int)} {t : List Rq} {r : Int} (h : bestE v l t r ≠ 0) : bestW v l t r = ⟨0, 0, 0⟩ := by unfold bestW; rw [if_neg h]
theorem bestW_ok {v : Vh} {l : List (Int × Int)} {t : List Rq} {r : Int} (h : bestE v l t r = 0) : bestW v l t r = leastW (eachL v l t r) := by unfold bestW; rw [if_pos h]
theorem best_in {v : Vh} {l : List (Int × Int)} {t : List Rq} {r : Int} (h : bestE v l t r = 0) : riseE v l t r (bestW v l t r).i (bestW v l t r).j = 0 ∧ (bestW v l t r).n = riseV v l t r (bestW v l t r).i (bestW v l t r).j := by
 have hz := bestE_zero h
 obtain ⟨p, b, q, h1, h2, -, -⟩ := least_some (each_small v l t r) hz.2
 rw [bestW_ok h, h2]
 have hm : b ∈ eachL v l t r := by rw [h1]; simp
 unfold eachL at hm
 rw [if_pos hz.1] at hm
 exact (waysP_mem hm).2
def reqC (t : List Rq) (r : Int) : Int := ((t[r.toNat]?).map fun q => q.chk).getD 1
def rightE (v : Vh) (l : List (Int × Int)) (t : List Rq) (r : Int) : Int :=
 if (inT t r && noR r l) = false then 8 else if reqC t r ≠ 0 ∨ v.chk ≠ 0 then 2 else if errT v l t = 9 then 0 else if errT v l t ≠ 0 then errT v l t else if 14 < l.length then 11 else 0
theorem reqC_at {t : List Rq} {r : Nat} {q : Rq} (h : t[r]? = some q) : reqC t r = q.chk := by unfold reqC; rw [Int.toNat_natCast, h]; rfl
theorem rightE_req {v : Vh} {l : List (Int × Int)} {t : List Rq} {r : Int} (h : (inT t r && noR r l) = false) : rightE v l t r = 8 := by unfold rightE; rw [if_pos h]
theorem rightE_count {v : Vh} {l : List (Int × Int)} {t : List Rq} {r : Int} (h : (inT t r && noR r l) = true) (h2 : reqC t r = 0) (h3 : v.chk = 0) (h5 : errT v l t = 0) (h6 : 14 < l.length) : rightE v l t r = 11 := by unfold rightE; rw [if_neg (by simp [h]), if_neg (by omega), if_neg (by omega), if_neg (by omega), if_pos h6]
theorem rightE_ok {v : Vh} {l : List (Int × Int)} {t : List Rq} {r : Int} (h : (inT t r && noR r l) = true) (h2 : reqC t r = 0) (h3 : v.chk = 0) (h5 : errT v l t = 0) (h6 : ¬ 14 < l.length) : rightE v l t r = 0 := by unfold rightE; rw [if_neg (by simp [h]), if_neg (by omega), if_neg (by omega), if_neg (by omega), if_neg h6]
end Go.Proofs.YteclpblfleakhaaGreatDoor.Cheap
namespace Go.Proofs.YteclpblfleakhaaGreatDoor.Plan
open Go.RowKit Go.Proofs.YteclpblfleakhaaGreatDoor.Order Go.Proofs.YteclpblfleakhaaGreatDoor.Place Go.Proofs.YteclpblfleakhaaGreatDoor.Route Go.Proofs.YteclpblfleakhaaGreatDoor.When Go.Proofs.YteclpblfleakhaaGreatDoor.Load Go.Proofs.YteclpblfleakhaaGreatDoor.Feas Go.Proofs.YteclpblfleakhaaGreatDoor.Ins Go.Proofs.YteclpblfleakhaaGreatDoor.Cheap
set_option linter.unusedVariables false
structure St where
 vs : List Vh
 t : List Rq
 rows : List (List (Int × Int))
def whF (r : Int) : Nat → List (List (Int × Int)) → Int
 | _, [] => -1
 | k, l :: rs => if noR r l then whF r (k + 1) rs else k
def whereV (rows : List (List (Int × Int))) (r : Int) : Int := whF r 0 rows
theorem whF_skip {r : Int} : ∀ {p q : List (List (Int × Int))} {k : Nat}, (∀ x ∈ p, noR r x = true) → whF r k (p ++ q) = whF r (k + p.length) q
 | [], q, k, _ => rfl
 | x :: p, q, k, h => by
  rw [List.cons_append, whF, if_pos (h x (by simp)), whF_skip (fun y hy => h y (by simp [hy])), List.length_cons]
  congr 1
  omega
theorem whF_hit {r : Int} {k : Nat} {l : List (Int × Int)} {q : List (List (Int × Int))} (h : noR r l = false) : whF r k (l :: q) = k := by rw [whF, if_neg (by simp [h])]
theorem whF_none {r : Int} : ∀ {rows : List (List (Int × Int))} {k : Nat}, whF r k rows < 0 ↔ ∀ l ∈ rows, noR r l = true
 | [], k => by simp [whF]
 | l :: rs, k => by
  rw [whF]
  split
  · rename_i h
    rw [whF_none]
    simp [h]
  · rename_i h
    constructor
    · intro h2; omega
    · intro h2; exact absurd (h2 l (by simp)) h
theorem whF_neg {r : Int} {rows : List (List (Int × Int))} {k : Nat} (h : ∀ l ∈ rows, noR r l = true) : whF r k rows = -1 := by
 have := whF_skip (q := []) (k := k) h
 rwa [List.append_nil] at this
theorem where_neg {r : Int} {rows : List (List (Int × Int))} : whereV rows r < 0 ↔ ∀ l ∈ rows, noR r l = true := whF_none
theorem where_no {r : Int} {rows : List (List (Int × Int))} (h : ∀ l ∈ rows, noR r l = true) : whereV rows r = -1 := whF_neg h
theorem where_at {r : Int} {rows : List (List (Int × Int))} {i : Nat} {l : List (Int × Int)} (h : rows[i]? = some l) (hl : noR r l = false) (hp : ∀ x ∈ rows.take i, noR r x = true) : whereV rows r = i := by
 have hlt := (List.getElem?_eq_some_iff.1 h).1
 have e : rows = rows.take i ++ l :: rows.drop (i + 1) := by
  rw [← (List.getElem?_eq_some_iff.1 h).2, ← List.drop_eq_getElem_cons hlt, List.take_append_drop]
 unfold whereV
 rw [e, whF_skip hp, whF_hit hl, List.length_take]
 omega
theorem whF_some {r : Int} : ∀ {rows : List (List (Int × Int))} {k : Nat}, 0 ≤ whF r k rows → ∃ (i : Nat) (l : List (Int × Int)), whF r k rows = ((k + i : Nat) : Int) ∧ rows[i]? = some l ∧ noR r l = false ∧ ∀ x ∈ rows.take i, noR r x = true
 | [], k, h => by simp [whF] at h
 | l :: rs, k, h => by
  cases h1 : noR r l
  · exact ⟨0, l, by rw [whF_hit h1]; simp, rfl, h1, fun x hx => by simp at hx⟩
  · rw [whF, if_pos h1] at h ⊢
    obtain ⟨i, m, e, h2, h3, h4⟩ := whF_some h
    refine ⟨i + 1, m, by rw [e]; congr 1; omega, by simpa using h2, h3, fun x hx => ?_⟩
    rw [List.take_succ_cons] at hx
    rcases List.mem_cons.1 hx with rfl | hx
    · exact h1
    · exact h4 x hx
theorem where_some {r : Int} {rows : List (List (Int × Int))} (h : 0 ≤ whereV rows r) : ∃ (i : Nat) (l : List (Int × Int)), whereV rows r = i ∧ rows[i]? = some l ∧ noR r l = false ∧ ∀ x ∈ rows.take i, noR r x = true := by
 obtain ⟨i, l, e, h1, h2, h3⟩ := whF_some h
 exact ⟨i, l, by unfold whereV; rw [e]; simp, h1, h2, h3⟩
theorem where_bd (rows : List (List (Int × Int))) (r : Int) : -1 ≤ whereV rows r ∧ whereV rows r < rows.length := by
 by_cases h : 0 ≤ whereV rows r
 · obtain ⟨i, l, e, h1, -, -⟩ := where_some h
   have := (List.getElem?_eq_some_iff.1 h1).1
   omega
 · have := where_no (where_neg.1 (by omega : whereV rows r < 0))
   omega
def accP (f : Nat → Option Int) : Nat → Int × Int
 | 0 => (-1, 0)
 | k + 1 => match f k with
  | some n => if (accP f k).1 < 0 ∨ n < (accP f k).2 then ((k : Int), n) else accP f k
  | none => accP f k
theorem acc_skip {f : Nat → Option Int} {k : Nat} (h : f k = none) : accP f (k + 1) = accP f k := by rw [accP, h]
theorem acc_take {f : Nat → Option Int} {k : Nat} {n : Int} (h : f k = some n) (h2 : (accP f k).1 < 0 ∨ n < (accP f k).2) : accP f (k + 1) = ((k : Int), n) := by simp only [accP, h]; rw [if_pos h2]
theorem acc_leave {f : Nat → Option Int} {k : Nat} {n : Int} (h : f k = some n) (h2 : ¬ ((accP f k).1 < 0 ∨ n < (accP f k).2)) : accP f (k + 1) = accP f k := by simp only [accP, h]; rw [if_neg h2]
theorem acc_is (f : Nat → Option Int) : ∀ k, (accP f k = (-1, 0) ∧ ∀ j, j < k → f j = none) ∨ ∃ (i : Nat) (n : Int), i < k ∧ accP f k = ((i : Int), n) ∧ f i = some n ∧ (∀ j m, j < k → f j = some m → n ≤ m) ∧ ∀ j m, j < i → f j = some m → n < m
 | 0 => .inl ⟨rfl, fun j h => absurd h (by omega)⟩
 | k + 1 => by
  have ih := acc_is f k
  cases hf : f k with
  | none =>
   rw [acc_skip hf]
   rcases ih with ⟨h1, h2⟩ | ⟨i, n, h1, h2, h3, h4, h5⟩
   · refine .inl ⟨h1, fun j hj => ?_⟩
     by_cases h : j = k
     · rw [h, hf]
     · exact h2 j (by omega)
   · refine .inr ⟨i, n, by omega, h2, h3, fun j m hj hm => ?_, h5⟩
     by_cases h : j = k
     · rw [h, hf] at hm; cases hm
     · exact h4 j m (by omega) hm
  | some n =>
   by_cases hc : (accP f k).1 < 0 ∨ n < (accP f k).2
   · rw [acc_take hf hc]
     refine .inr ⟨k, n, by omega, rfl, hf, fun j m hj hm => ?_, fun j m hj hm => ?_⟩
     · by_cases h : j = k
       · rw [h, hf] at hm; cases hm; omega
       · rcases ih with ⟨h1, h2⟩ | ⟨i, n', h1, h2, h3, h4, h5⟩
         · rw [h2 j (by omega)] at hm; cases hm
         · have := h4 j m (by omega) hm
           rw [h2] at hc
           simp only at hc
           omega
     · rcases ih with ⟨h1, h2⟩ | ⟨i, n', h1, h2, h3, h4, h5⟩
       · rw [h2 j (by omega)] at hm; cases hm
       · have := h4 j m (by omega) hm
         rw [h2] at hc
         simp only at hc
         omega
   · rw [acc_leave hf hc]
     rcases ih with ⟨h1, h2⟩ | ⟨i, n', h1, h2, h3, h4, h5⟩
     · exact absurd (.inl (by rw [h1]; decide)) hc
     · refine .inr ⟨i, n', by omega, h2, h3, fun j m hj hm => ?_, h5⟩
       by_cases h : j = k
       · rw [h, hf] at hm
         cases hm
         rw [h2] at hc
         simp only at hc
         omega
       · exact h4 j m (by omega) hm
def bestF (S : St) (r : Int) (i : Nat) : Option Int :=
 match S.vs[i]?, S.rows[i]? with
 | some v, some l => if bestE v l S.t r = 0 then some (bestW v l S.t r).n else none
 | _, _ => none
theorem bestF_at {S : St} {r : Int} {i : Nat} {v : Vh} {l : List (Int × Int)} (hv : S.vs[i]? = some v) (hl : S.rows[i]? = some l) : bestF S r i = if bestE v l S.t r = 0 then some (bestW v l S.t r).n else none := by unfold bestF; rw [hv, hl]
def priceE (S : St) (r : Int) : Int := if inT S.t r = false then 8 else if 0 ≤ whereV S.rows r then 13 else if (accP (bestF S r) S.vs.length).1 < 0 then 12 else 0
def priceI (S : St) (r : Int) : Int := if priceE S r = 0 then (accP (bestF S r) S.vs.length).1 else 0
def priceN (S : St) (r : Int) : Int := if priceE S r = 0 then (accP (bestF S r) S.vs.length).2 else 0
theorem priceE_stop {S : St} {r : Int} (h : inT S.t r = false) : priceE S r = 8 := by unfold priceE; rw [if_pos h]
theorem priceE_twice {S : St} {r : Int} (h : inT S.t r = true) (h2 : 0 ≤ whereV S.rows r) : priceE S r = 13 := by unfold priceE; rw [if_neg (by simp [h]), if_pos h2]
theorem priceE_none {S : St} {r : Int} (h : inT S.t r = true) (h2 : whereV S.rows r < 0) (h3 : (accP (bestF S r) S.vs.length).1 < 0) : priceE S r = 12 := by unfold priceE; rw [if_neg (by simp [h]), if_neg (by omega), if_pos h3]
theorem priceE_ok {S : St} {r : Int} (h : inT S.t r = true) (h2 : whereV S.rows r < 0) (h3 : ¬ (accP (bestF S r) S.vs.length).1 < 0) : priceE S r = 0 := by unfold priceE; rw [if_neg (by simp [h]), if_neg (by omega), if_neg h3]
theorem priceE_zero {S : St} {r : Int} (h : priceE S r = 0) : inT S.t r = true ∧ whereV S.rows r < 0 ∧ 0 ≤ (accP (bestF S r) S.vs.length).1 := by
 unfold priceE at h
 split at h
 · omega
 rename_i h1
 split at h
 · omega
 split at h
 · omega
 exact ⟨by simpa using h1, by omega, by omega⟩
theorem price_no {S : St} {r : Int} (h : priceE S r ≠ 0) : priceI S r = 0 ∧ priceN S r = 0 := by unfold priceI priceN; rw [if_neg h, if_neg h]; exact ⟨rfl, rfl⟩
theorem price_yes {S : St} {r : Int} (h : priceE S r = 0) : priceI S r = (accP (bestF S r) S.vs.length).1 ∧ priceN S r = (accP (bestF S r) S.vs.length).2 := by unfold priceI priceN; rw [if_pos h, if_pos h]; exact ⟨rfl, rfl⟩
theorem price_at {S : St} {r : Int} (h : priceE S r = 0) : ∃ (i : Nat) (v : Vh) (l : List (Int × Int)), priceI S r = i ∧ S.vs[i]? = some v ∧ S.rows[i]? = some l ∧ bestE v l S.t r = 0 ∧ priceN S r = (bestW v l S.t r).n := by
 obtain ⟨h1, h2, h3⟩ := priceE_zero h
 rcases acc_is (bestF S r) S.vs.length with ⟨e, -⟩ | ⟨i, n, hi, e, hf, -, -⟩
 · rw [e] at h3; simp at h3
 · obtain ⟨p1, p2⟩ := price_yes h
   rw [e] at p1 p2
   unfold bestF at hf
   split at hf
   · rename_i v l hv hl
     split at hf
     · rename_i hb
       refine ⟨i, v, l, p1, hv, hl, hb, ?_⟩
       rw [p2]
       exact (Option.some.inj hf).symm
     · cases hf
   · cases hf
def putS (S : St) (r : Int) : St :=
 match S.vs[(priceI S r).toNat]?, S.rows[(priceI S r).toNat]? with
 | some v, some l => if priceE S r = 0 then { S with rows := S.rows.set (priceI S r).toNat (moreL l r (bestW v l S.t r).i (bestW v l S.t r).j) } else S
 | _, _ => S
theorem putS_no {S : St} {r : Int} (h : priceE S r ≠ 0) : putS S r = S := by
 unfold putS
 split
 · rw [if_neg h]
 · rfl
theorem putS_yes {S : St} {r : Int} (h : priceE S r = 0) {i : Nat} {v : Vh} {l : List (Int × Int)} (hi : priceI S r = i) (hv : S.vs[i]? = some v) (hl : S.rows[i]? = some l) :
 putS S r = { S with rows := S.rows.set i (moreL l r (bestW v l S.t r).i (bestW v l S.t r).j) } := by
 unfold putS
 rw [hi, Int.toNat_natCast, hv, hl]
 simp only
 rw [if_pos h]
def takeE (S : St) (r : Int) : Int := if whereV S.rows r < 0 then 12 else 0
def takeS (S : St) (r : Int) : St :=
 match S.rows[(whereV S.rows r).toNat]? with
 | some l => if whereV S.rows r < 0 then S else { S with rows := S.rows.set (whereV S.rows r).toNat (woL r l) }
 | none => S
theorem takeS_no {S : St} {r : Int} (h : whereV S.rows r < 0) : takeS S r = S := by
 unfold takeS
 split
 · rw [if_pos h]
 · rfl
theorem takeS_yes {S : St} {r : Int} {i : Nat} {l : List (Int × Int)} (h : whereV S.rows r = i) (hl : S.rows[i]? = some l) : takeS S r = { S with rows := S.rows.set i (woL r l) } := by
 unfold takeS
 rw [h, Int.toNat_natCast, hl]
 simp only
 rw [if_neg (by omega)]
def totR (t : List Rq) : List Vh → List (List (Int × Int)) → Int
 | v :: vs, l :: ls => (homeT v l t - v.st) + totR t vs ls
 | _, _ => 0
def totS (S : St) : Int := totR S.t S.vs S.rows
theorem totR_set (t : List Rq) : ∀ {vs : List Vh} {ls : List (List (Int × Int))} {i : Nat} {v : Vh} {l : List (Int × Int)} (m : List (Int × Int)), vs[i]? = some v → ls[i]? = some l → totR t vs (ls.set i m) = totR t vs ls + (homeT v m t - homeT v l t)
 | [], _, i, v, l, m, hv, _ => by simp at hv
 | _ :: _, [], i, v, l, m, _, hl => by simp at hl
 | v0 :: vs, l0 :: ls, 0, v, l, m, hv, hl => by
  simp at hv hl
  subst hv; subst hl
  simp [totR]
  omega
 | v0 :: vs, l0 :: ls, i + 1, v, l, m, hv, hl => by
  simp at hv hl
  have := totR_set t m hv hl
  simp [totR, this]
  omega
structure Ok (S : St) : Prop where
 len : S.rows.length = S.vs.length
 cnt : 1 ≤ S.vs.length ∧ S.vs.length ≤ 4
 tl : S.t.length ≤ 1000
 dr : ∀ (i : Nat) v l, S.vs[i]? = some v → S.rows[i]? = some l → Feas.Dr v l S.t ∧ errT v l S.t = 0 ∧ fitE v l S.t = 0 ∧ Nums l
 one : ∀ (i j : Nat) l m r, S.rows[i]? = some l → S.rows[j]? = some m → noR r l = false → noR r m = false → i = j
theorem noR_woL (q r : Int) (l : List (Int × Int)) : noR q (woL r l) = (decide (q = r) || noR q l) := by
 rw [Bool.eq_iff_iff]
 simp only [noR_iff, Bool.or_eq_true, decide_eq_true_eq]
 constructor
 · intro h
   by_cases e : q = r
   · exact .inl e
   · exact .inr fun s hs hq => h s (by simp [woL, hs, hq, e]) hq
 · rintro (rfl | h) s hs
   · have : s ∈ l ∧ s.1 ≠ q := by simpa [woL] using hs
     exact this.2
   · have : s ∈ l ∧ s.1 ≠ r := by simpa [woL] using hs
     exact h s this.1
theorem noR_moreL {l : List (Int × Int)} {r i j : Int} (hm : mayW l r i j = true) (q : Int) : noR q (moreL l r i j) = (decide (q ≠ r) && noR q l) := by
 have hi := mayW_iff.1 hm
 obtain ⟨a, b, c, e, ha, hb⟩ := parts (l := l) (i := i.toNat) (j := j.toNat) (by omega) (by omega)
 unfold moreL
 rw [← hb, ← ha, e, withL_parts, Bool.eq_iff_iff]
 simp only [noR_iff, Bool.and_eq_true, decide_eq_true_eq, List.mem_append, List.mem_cons]
 constructor
 · intro h
   refine ⟨fun e => h (r, 0) (.inr (.inl rfl)) e.symm, fun s hs => ?_⟩
   rcases hs with (hs | hs) | hs
   · exact h s (.inl hs)
   · exact h s (.inr (.inr (.inl hs)))
   · exact h s (.inr (.inr (.inr (.inr hs))))
 · rintro ⟨h1, h2⟩ s (hs | rfl | hs | rfl | hs)
   · exact h2 s (.inl (.inl hs))
   · exact fun e => h1 e.symm
   · exact h2 s (.inl (.inr hs))
   · exact fun e => h1 e.symm
   · exact h2 s (.inr hs)
theorem moreDr {v : Vh} {l : List (Int × Int)} {t : List Rq} {r i j : Int} (h : Feas.Dr v l t) (hm : mayW l r i j = true) (hr : r < t.length) (hl : l.length ≤ 14) : Feas.Dr v (moreL l r i j) t :=
 ⟨h.hv, h.ht, isR_with hm h.hl, by rw [moreL_length hm]; omega, fun s hs => by
  unfold moreL withL at hs
  simp only [List.mem_append, List.mem_cons] at hs
  rcases hs with hs | rfl | hs | rfl | hs
  · exact h.hr s (List.mem_of_mem_take hs)
  · exact hr
  · exact h.hr s (List.mem_of_mem_take (List.mem_of_mem_drop hs))
  · exact hr
  · exact h.hr s (List.mem_of_mem_drop hs)⟩
theorem nums_less {l : List (Int × Int)} {r : Int} (h : Nums l) : Nums (woL r l) := fun s hs => h s (List.mem_filter.1 hs).1
theorem head_right {v : Vh} {l : List (Int × Int)} {t : List Rq} (h : Feas.Dr v l t) (he : errT v l t = 0) (r : Int) : headE v l t r = rightE v l t r := by
 cases h1 : (inT t r && noR r l)
 · have hw : riseE v l t r 0 0 = 8 := by rw [riseE_with (by rw [withE_req h1]; omega), withE_req h1]
   unfold headE
   rw [hw, rightE_req h1]
   decide
 have h2 := h1
 simp only [Bool.and_eq_true] at h2
 have hin := inT_iff.1 h2.1
 have hq : reqC t r = 0 := by
  obtain ⟨R, rfl⟩ : ∃ R : Nat, r = R := ⟨r.toNat, by omega⟩
  have hlt : R < t.length := by omega
  rw [reqC_at (List.getElem?_eq_getElem hlt)]
  exact h.ht _ (List.getElem_mem hlt)
 by_cases h14 : 14 < l.length
 · have hw : riseE v l t r 0 0 = 11 := by rw [riseE_with (by rw [withE_count h1 he h14]; omega), withE_count h1 he h14]
   unfold headE
   rw [hw, rightE_count h1 hq h.hv he h14]
   decide
 · have hpl : placesB l.length 0 0 = true := placesB_iff.2 ⟨by omega, by omega, by omega⟩
   have hmay : mayW l r 0 0 = true := by rw [mayW_places h1 h14]; exact hpl
   have hd := moreDr h hmay (by omega) (by omega)
   have hw := withE_ok (i := 0) (j := 0) h1 he h14 hpl
   rw [rightE_ok h1 hq h.hv he h14]
   have hval : riseE v l t r 0 0 = 0 ∨ riseE v l t r 0 0 = 9 ∨ riseE v l t r 0 0 = 10 := by
    unfold riseE
    rw [if_neg (by omega)]
    rcases hd.agree with ⟨_, h5, h6⟩ | ⟨_, h5, _⟩ | ⟨_, h5, h6⟩
    · left; rw [h6, h5]; rfl
    · right; right; rw [h5]; rfl
    · rcases h6 with h6 | ⟨h6, _⟩
      · right; left; rw [h6, h5]; rfl
      · right; right; rw [h6]; rfl
   unfold headE
   rw [if_pos hval]
end Go.Proofs.YteclpblfleakhaaGreatDoor.Plan
namespace Go.Proofs.YteclpblfleakhaaGreatDoor.Slack
open Go.Proofs.YteclpblfleakhaaGreatDoor.Order Go.Proofs.YteclpblfleakhaaGreatDoor.Place Go.Proofs.YteclpblfleakhaaGreatDoor.Window Go.Proofs.YteclpblfleakhaaGreatDoor.When
set_option linter.unusedVariables false
def beB (a : Sp) (x : Vi) (b : Int) : Int := max (arV a x) x.we + b
def goB (a : Sp) (x : Vi) (b : Int) : Sp := ⟨beB a x b + x.sv, x.px, x.py⟩
def endB (a : Sp) (ys : List (Vi × Int)) : Sp := ys.foldl (fun a y => goB a y.1 y.2) a
def okBs : Sp → List (Vi × Int) → Bool
 | _, [] => true
 | a, y :: ys => decide (beB a y.1 y.2 ≤ y.1.wl) && okBs (goB a y.1 y.2) ys
theorem okBs_append : ∀ (a : Sp) (ys zs : List (Vi × Int)), okBs a (ys ++ zs) = (okBs a ys && okBs (endB a ys) zs)
 | a, [], zs => by simp [okBs, endB]
 | a, y :: ys, zs => by simp [okBs, endB, okBs_append (goB a y.1 y.2) ys zs, Bool.and_assoc]
theorem okBs_snoc (a : Sp) (ys : List (Vi × Int)) (y : Vi × Int) : okBs a (ys ++ [y]) = (okBs a ys && decide (beB (endB a ys) y.1 y.2 ≤ y.1.wl)) := by rw [okBs_append]; simp [okBs]
def bmp (i by_ : Int) (k : Nat) : Int := if (k : Int) = i then by_ else 0
def pairs (xs : List Vi) (i by_ : Int) : List (Vi × Int) := xs.mapIdx fun k x => (x, bmp i by_ k)
theorem pairs_length (xs : List Vi) (i by_ : Int) : (pairs xs i by_).length = xs.length := by simp [pairs]
theorem pairs_get {xs : List Vi} {i by_ : Int} {k : Nat} {x : Vi} (h : xs[k]? = some x) : (pairs xs i by_)[k]? = some (x, bmp i by_ k) := by simp [pairs, h]
def fromB (v : Vh) (l : List (Int × Int)) (t : List Rq) (i by_ : Int) : Bool := okBs (sp0 v) (pairs (visL t l) i by_) && decide (arV (endB (sp0 v) (pairs (visL t l) i by_)) (homeV v) ≤ v.en)
end Go.Proofs.YteclpblfleakhaaGreatDoor.Slack
namespace Go.Proofs.YteclpblfleakhaaGreatDoor.Slack
open Go.RowKit Go.Sort Go.Proofs.YteclpblfleakhaaGreatDoor.Mem Go.Proofs.YteclpblfleakhaaGreatDoor.Route Go.Proofs.YteclpblfleakhaaGreatDoor.When Go.Proofs.YteclpblfleakhaaGreatDoor.Tail
set_option linter.unusedVariables false
def visN (v : Vh) (t : List Rq) (l : List (Int × Int)) (k : Nat) : Vi := ((visL t l)[k]?).getD (homeV v)
theorem distCall (ax ay bx by_ D : Int) (hD : Place.distV (ax, ay) (bx, by_) = D) (w : World) : Calls Tryz.prog 99 #[.agg #[.int .i64 ax, .int .i64 ay], .agg #[.int .i64 bx, .int .i64 by_]] w fun e w' => e = .returned (.int .i64 D) ∧ Below w.heap.size w w' := by
 rw [← hD]; exact Place.Dist_any _ _ _ _ _
end Go.Proofs.YteclpblfleakhaaGreatDoor.Slack
namespace Go.Proofs.YteclpblfleakhaaGreatDoor.Slack
open Go.Proofs.YteclpblfleakhaaGreatDoor.Order Go.Proofs.YteclpblfleakhaaGreatDoor.Place Go.Proofs.YteclpblfleakhaaGreatDoor.Window Go.Proofs.YteclpblfleakhaaGreatDoor.When
set_option linter.unusedVariables false
theorem errT_zero {v : Vh} {l : List (Int × Int)} {t : List Rq} : errT v l t = 0 ↔ wrongV v l t = 0 ∧ okT v l t = true := by
 unfold errT
 constructor
 · intro h
   by_cases h0 : wrongV v l t = 0
   · rw [if_neg (by simpa using h0)] at h
     cases hk : okT v l t
     · rw [hk] at h; simp at h
     · exact ⟨h0, rfl⟩
   · rw [if_pos h0] at h
     exact absurd h h0
 · rintro ⟨h1, h2⟩
   rw [if_neg (by simpa using h1), h2]
   rfl
end Go.Proofs.YteclpblfleakhaaGreatDoor.Slack
namespace Go.Proofs.YteclpblfleakhaaGreatDoor.When
open Go.RowKit Go.Proofs.YteclpblfleakhaaGreatDoor.Mem Go.Proofs.YteclpblfleakhaaGreatDoor.Route
set_option linter.unusedVariables false
theorem cutTo {B : Nat} {W : World} {x : Option Addr} {N cap k m : Nat} {l : List (List Value)} (h : RowB B W (.slice x N cap) m l) (hl : l.length = N) (hk : k ≤ N) (C : Nat) (hC : k ≤ C) (hC2 : C ≤ maxLen) (hx : x = none → C = 0) : RowB B W (.slice x k C) m (l.take k) := by
 obtain ⟨x', cap', e, h1, h2, h0, h3⟩ := h
 simp only [Value.slice.injEq] at e
 obtain ⟨rfl, rfl, rfl⟩ := e
 refine ⟨x, C, by simp; omega, by simp; omega, hC2, fun hx' => ?_, fun j r hj => ?_⟩
 · have := h0 hx'
   rw [this.1]
   exact ⟨by simp, hx hx'⟩
 · refine h3 j r ?_
   rw [List.getElem?_take] at hj
   split at hj
   · exact hj
   · cases hj
theorem ret_ti {u : Value} {a b c d : Int} (h : a = b) (h2 : c = d) : Ending.returned (.tuple #[u, .int .i64 a, .int .i64 c]) = .returned (.tuple #[u, .int .i64 b, .int .i64 d]) := by rw [h, h2]
set_option maxRecDepth 100000 in
set_option maxHeartbeats 4000000 in
theorem Times_cap (v : Vh) (vl vt : Value) (l : List (Int × Int)) (t : List Rq) (hl : l.length ≤ 1000000) (hnum : Nums l) (w : World) (hL : Row w.heap.size w vl l) (hT : Rqs w.heap.size w vt t) :
 Calls Tryz.prog 60 #[.agg #[.int .i64 v.hx, .int .i64 v.hy, .int .i64 v.cp, .int .i64 v.st, .int .i64 v.en], vl, vt] w fun e w' =>
  (∃ u, e = .returned (.tuple #[u, .int .i64 (homeT v l t), .int .i64 (errT v l t)]) ∧ Tms w'.heap.size w' u (timesL v l t) ∧ (errT v l t ≠ 0 → u = .slice none 0 0) ∧ (errT v l t = 0 → ∃ x, u = .slice x l.length l.length)) ∧ Below w.heap.size w w' := by
 have hb0 : Below w.heap.size w (w.alloc (.cells #[.int .i64 v.hx, .int .i64 v.hy, .int .i64 v.cp, .int .i64 v.st, .int .i64 v.en] 32)) := (Below.refl _ _).alloc (Nat.le_refl _) _
 have hc := check_any v vl vt l t hl hnum _ (hL.on hb0) (hT.on hb0)
 have hP := At.new w 32 #[.int .i64 v.hx, .int .i64 v.hy, .int .i64 v.cp, .int .i64 v.st, .int .i64 v.en]
 obtain ⟨xl, Nl, capl, rfl, hNl, hl0, hlc1, hlc2⟩ := hL.opened
 obtain ⟨xt, Nt, capt, rfl, hNt0, htc1, htc2, ht0⟩ := hT.opened
 have hNt := Lib.hid hNt0
 unfold maxLen at hlc2 htc2
 have hL' := Lib.hid hL
 have hT' := Lib.hid hT
 have hl' := Lib.hid hl
 have hNl1 : Nl ≤ 1000000 := by rw [hNl.out] at hl; exact hl
 clear hL hT hNt0 ht0 hl hnum
 obtain ⟨E, hE⟩ : ∃ E, wrongV v l t = E := ⟨_, rfl⟩
 rw [hE] at hc
 have hE' := Lib.hid hE
 clear hE
 go_enter Tryz.func60, Tryz.ntmps60
 go_wp2_with fail
 refine hc.mono ?_
 clear hc
 rintro e w1 ⟨rfl, hb1⟩
 have hB := hb0.trans (hb1.mono hb0.size)
 have hP1 := hP.keep hb1 hP.inside
 clear hb0 hb1 hP
 cases he0 : (E == 0)
 · have he1 : (E != 0) = true := by simpa using he0
   have hw : Hid (errT v l t = E ∧ errT v l t ≠ 0) := Lib.hid (by
    have h1 : wrongV v l t ≠ 0 := by rw [hE'.out]; simpa using he0
    rw [errT_wrong h1, hE'.out]
    exact ⟨rfl, by simpa using he0⟩)
   go_wp2
   refine bodyPost_ret (v := .tuple #[.slice none 0 0, .int .i64 0, .int .i64 E]) (by simp [results, Tryz.results60, go_sem]) rfl ?_
   exact ⟨⟨_, ret_ti (homeT_no hw.out.2).symm hw.out.1.symm, by rw [timesL_no hw.out.2]; exact RowB.nil _ _ _, fun _ => rfl, fun h => absurd h hw.out.2⟩, hB⟩
 · have he1 : (E != 0) = false := by simpa using he0
   have hz : wrongV v l t = 0 := by rw [hE'.out]; simpa using he0
   have hm := mild_of hz
   have hg := trip_good hz
   have p0 := hP1.cell 0
   have p1 := hP1.cell 1
   have p2 := hP1.cell 2
   have p3 := hP1.cell 3
   have p4 := hP1.cell 4
   have hPs := hP1.inside
   simp at p0 p1 p2 p3 p4
   have hz' := Lib.hid hz
   have hm' := Lib.hid hm
   have hg' := Lib.hid hg
   have hB' := Lib.hid hB
   have hsz : Hid (w.heap.size ≤ w1.heap.size) := Lib.hid hB.size
   clear hz hm hg hB hP1
   go_wp2_with fail
   refine (visits_any v xl xt Nl capl Nt capt _).mono ?_
   rintro e w2 ⟨rfl, hw2⟩
   have hs0 : (w1.alloc (.cells #[.int .i64 0, .int .i64 0, .int .i64 v.st, .int .i64 v.hx, .int .i64 v.hy] 164)).heap.size = w1.heap.size + 1 := by simp
   rw [hs0]
   have hS : At w2 w1.heap.size 164 #[.int .i64 0, .int .i64 0, .int .i64 v.st, .int .i64 v.hx, .int .i64 v.hy] := by rw [← hw2]; exact ((((At.new _ _ _).alloc _).alloc _).alloc _)
   have hv2 : At w2 (w1.heap.size + 1) 32 #[.int .i64 v.hx, .int .i64 v.hy, .int .i64 v.cp, .int .i64 v.st, .int .i64 v.en] := by rw [← hw2]; exact ((At.new_ _ _ _ (by simp)).alloc _).alloc _
   have hl2 : At w2 (w1.heap.size + 2) 28 #[.slice xl Nl capl] := by rw [← hw2]; exact (At.new_ _ _ _ (by simp)).alloc _
   have ht2 : At w2 (w1.heap.size + 3) 37 #[.slice xt Nt capt] := by rw [← hw2]; exact At.new_ _ _ _ (by simp)
   have hB2 : Below w1.heap.size w1 w2 := by rw [← hw2]; exact ((((Below.refl _ _).alloc (Nat.le_refl _) _).alloc (by simp) _).alloc (by simp; omega) _).alloc (by simp; omega) _
   have hBB : Below w.heap.size w w2 := hB'.out.trans (hB2.mono hsz.out)
   have htr := trip_any v l t hl'.out (.slice xl Nl capl) (.slice xt Nt capt) w1.heap.size (w1.heap.size + 2) (w1.heap.size + 3) (w1.heap.size + 1) w2 hm'.out hS
    ⟨hl2, ht2, hv2, (hL'.out.keep hBB (Nat.le_refl _)).more hsz.out, (hT'.out.keep hBB (Nat.le_refl _)).more hsz.out⟩ (by omega)
   rw [hg'.out] at htr
   clear hw2 hS hv2 hl2 ht2 hs0 p0 p1 p2 p3 p4
   go_wp2_with fail
   refine htr.mono ?_
   clear htr
   rintro e w3 ⟨⟨u, rfl, hu⟩, hb3⟩
   have hB3 : Below w.heap.size w w3 := (hB'.out.trans (hB2.mono hsz.out)).trans (hb3.mono hsz.out)
   clear hb3 hB2 hBB
   cases hok : okT v l t
   · have hw := Lib.hid (errT_late hz'.out hok)
     clear hu
     go_wp2
     refine bodyPost_ret (v := .tuple #[.slice none 0 0, .int .i64 0, .int .i64 9]) (by simp [results, Tryz.results60, go_sem]) rfl ?_
     exact ⟨⟨_, ret_ti (homeT_no (by rw [hw.out]; omega)).symm hw.out.symm, by rw [timesL_no (by rw [hw.out]; omega)]; exact RowB.nil _ _ _, fun _ => rfl, fun h => absurd h (by rw [hw.out]; omega)⟩, hB3⟩
   · have hw := Lib.hid (errT_ok hz'.out hok)
     have hu1 := hu hok
     rw [trip_tms] at hu1
     obtain ⟨x, N, cap, rfl, hN, hc1, hc2, hx⟩ := Tms.opened hu1
     have hrl := rowT_length v l t
     have hN2 : N = Nl + 1 := by rw [← hN, List.length_append, hrl, hNl.out]; rfl
     subst hN2
     obtain ⟨g, o, rfl, hg3, cA, c1, c2⟩ := Tms.at hu1 (k := Nl) (q := tmV (endA (sp0 v) (visL t l)) (homeV v)) (by rw [List.getElem?_append_right (by rw [hrl, hNl.out]; exact Nat.le_refl _), hrl, hNl.out]; simp)
     have hfin : Tms w3.heap.size w3 (.slice (some ⟨g, o, none⟩) Nl Nl) (timesL v l t) := by
      have := cutTo (k := Nl) hu1 (by rw [List.length_map]; exact hN) (Nat.le_succ _) Nl (Nat.le_refl _) (by unfold maxLen; omega) (fun h => by cases h)
      rw [← List.map_take] at this
      rw [timesL_ok hw.out]
      have e2 : (rowT v l t ++ [tmV (endA (sp0 v) (visL t l)) (homeV v)]).take Nl = rowT v l t := by
       rw [List.take_append_of_le_length (by rw [hrl, hNl.out]; exact Nat.le_refl _), List.take_of_length_le (by rw [hrl, hNl.out]; exact Nat.le_refl _)]
      rw [e2] at this
      exact this
     have c0 : w3.cell? ⟨g, o + Nl * 3, none⟩ = some (.int .i64 (endT v l t)) := cA
     have hfin' := Lib.hid hfin
     clear hu hu1 hfin hN hrl cA c1 c2 hx
     go_wp2_with fail
     go_quiet (fail)
     go_wp2
     refine bodyPost_ret (v := .tuple #[.slice (some ⟨g, o, none⟩) Nl Nl, .int .i64 (endT v l t), .int .i64 0]) (by simp [results, Tryz.results60, go_sem]) rfl ?_
     have hB9 := Place.below_drewN hB3 nq
     exact ⟨⟨_, ret_ti (homeT_ok hw.out).symm hw.out.symm, hfin'.out, fun h => absurd hw.out h, fun _ => ⟨_, by rw [hNl.out]⟩⟩, hB9⟩
theorem Times_all (v : Vh) (vl vt : Value) (l : List (Int × Int)) (t : List Rq) (hl : l.length ≤ 1000000) (hnum : Nums l) (w : World) (hL : Row w.heap.size w vl l) (hT : Rqs w.heap.size w vt t) :
 Calls Tryz.prog 60 #[.agg #[.int .i64 v.hx, .int .i64 v.hy, .int .i64 v.cp, .int .i64 v.st, .int .i64 v.en], vl, vt] w fun e w' =>
  (∃ u, e = .returned (.tuple #[u, .int .i64 (homeT v l t), .int .i64 (errT v l t)]) ∧ Tms w'.heap.size w' u (timesL v l t) ∧ (errT v l t ≠ 0 → u = .slice none 0 0)) ∧ Below w.heap.size w w' :=
 (Times_cap v vl vt l t hl hnum w hL hT).mono fun e w' ⟨⟨u, h1, h2, h3, _⟩, h4⟩ => ⟨⟨u, h1, h2, h3⟩, h4⟩
theorem Times_any (v : Vh) (vl vt : Value) (l : List (Int × Int)) (t : List Rq) (hl : l.length ≤ 1000000) (hnum : Nums l) (w : World) (hL : Row w.heap.size w vl l) (hT : Rqs w.heap.size w vt t) :
 Calls Tryz.prog 60 #[.agg #[.int .i64 v.hx, .int .i64 v.hy, .int .i64 v.cp, .int .i64 v.st, .int .i64 v.en], vl, vt] w fun e w' =>
  (∃ u, e = .returned (.tuple #[u, .int .i64 (homeT v l t), .int .i64 (errT v l t)]) ∧ Tms w'.heap.size w' u (timesL v l t)) ∧ Below w.heap.size w w' :=
 (Times_all v vl vt l t hl hnum w hL hT).mono fun e w' ⟨⟨u, h1, h2, _⟩, h3⟩ => ⟨⟨u, h1, h2⟩, h3⟩
end Go.Proofs.YteclpblfleakhaaGreatDoor.When

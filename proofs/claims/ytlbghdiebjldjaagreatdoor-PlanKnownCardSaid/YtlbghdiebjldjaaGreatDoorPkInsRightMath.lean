import Derived.Test.YtlbghdiebjldjaaGreatDoorPkWhenDraft2
import Derived.Test.YtlbghdiebjldjaaGreatDoorPkFeasSomeMath

namespace Go.Proofs.YtlbghdiebjldjaaGreatDoor.Ins
open Go.RowKit Go.Proofs.YtlbghdiebjldjaaGreatDoor.Order Go.Proofs.YtlbghdiebjldjaaGreatDoor.Place Go.Proofs.YtlbghdiebjldjaaGreatDoor.Route Go.Proofs.YtlbghdiebjldjaaGreatDoor.When Go.Proofs.YtlbghdiebjldjaaGreatDoor.Load Go.Proofs.YtlbghdiebjldjaaGreatDoor.Feas
set_option linter.unusedVariables false
theorem fault_iff {v : Vh} {l : List (Int × Int)} {t : List Rq} (h : Feas.Dr v l t) : (faultV v l t).1 = 0 ↔ errT v l t = 0 ∧ fitE v l t = 0 := by
 rcases h.agree with ⟨h1, h2, h3⟩ | ⟨h1, h2, _⟩ | ⟨h1, h2, _⟩ <;> omega
theorem less_fault {v : Vh} {l : List (Int × Int)} {t : List Rq} (h : Feas.Dr v l t) (r : Int) (hf : (faultV v l t).1 = 0) : errT v (woL r l) t = 0 ∧ fitE v (woL r l) t = 0 :=
 (fault_iff (h.less r)).1 ((less_serves h r).2 hf)
theorem endT_early {v : Vh} {l : List (Int × Int)} {t : List Rq} (h : Feas.Dr v l t) (he : errT v l t = 0) : earlyL (sp0 v) (visL t l) = some (endA (sp0 v) (visL t l)) := by
 have ho := (When.errT_zero he).2
 unfold When.okT at ho
 rw [Bool.and_eq_true] at ho
 exact ((early_sched (a := sp0 v) h.visL).1 ho.1).1
theorem home_may {v : Vh} (h : v.chk = 0) : MayV (homeV v) := by
 unfold Vh.chk at h
 exact ⟨((veh_iff ..).1 h).1, Int.le_refl _⟩
theorem less_home {v : Vh} {l : List (Int × Int)} {t : List Rq} (h : Feas.Dr v l t) (r : Int) (he : errT v l t = 0) (he' : errT v (woL r l) t = 0) : homeT v (woL r l) t ≤ homeT v l t := by
 rw [homeT_ok he, homeT_ok he']
 obtain ⟨b', e1, e2⟩ := early_less (r := r) (g := visV t) (a' := sp0 v) h.may (home_may h.hv).1 (endT_early h he) (fun p _ => Int.le_refl _)
 have e3 := endT_early (h.less r) he'
 obtain rfl : b' = endA (sp0 v) (visL t (woL r l)) := Option.some.inj (e1.symm.trans e3)
 exact later_at e2 (home_may h.hv)
end Go.Proofs.YtlbghdiebjldjaaGreatDoor.Ins
namespace Go.Proofs.YtlbghdiebjldjaaGreatDoor.Ins
open Go.RowKit Go.Shelf Go.Proofs.YtlbghdiebjldjaaGreatDoor.Mem Go.Proofs.YtlbghdiebjldjaaGreatDoor.Route Go.Proofs.YtlbghdiebjldjaaGreatDoor.When Go.Proofs.YtlbghdiebjldjaaGreatDoor.Up
set_option linter.unusedVariables false
attribute [local go_sem] Oper.semAt_some
def rowL (N i j : Nat) : List (Int × Int) := (List.range' j (N + 1 - j)).map fun (k : Nat) => ((i : Int), (k : Int))
def fromL (N i : Nat) : List (Int × Int) := (List.range' i (N + 1 - i)).flatMap fun a => rowL N a a
def pairsL (n : Int) : List (Int × Int) := if 16 < n then [] else if n < 0 then [] else fromL n.toNat 0
theorem rowL_cons {N i j : Nat} (h : j ≤ N) : rowL N i j = ((i : Int), (j : Int)) :: rowL N i (j + 1) := by
 unfold rowL
 rw [show N + 1 - j = (N + 1 - (j + 1)) + 1 by omega, List.range'_succ]
 rfl
theorem rowL_nil {N i j : Nat} (h : N < j) : rowL N i j = [] := by
 unfold rowL
 rw [show N + 1 - j = 0 by omega]
 rfl
theorem fromL_cons {N i : Nat} (h : i ≤ N) : fromL N i = rowL N i i ++ fromL N (i + 1) := by
 unfold fromL
 rw [show N + 1 - i = (N + 1 - (i + 1)) + 1 by omega, List.range'_succ]
 rfl
theorem fromL_nil {N i : Nat} (h : N < i) : fromL N i = [] := by
 unfold fromL
 rw [show N + 1 - i = 0 by omega]
 rfl
theorem pairsL_in {N : Nat} (h : N ≤ 16) : pairsL N = fromL N 0 := by
 unfold pairsL
 rw [if_neg (by omega), if_neg (by omega), Int.toNat_natCast]
theorem pairsL_big {n : Int} (h : 16 < n) : pairsL n = [] := by unfold pairsL; rw [if_pos h]
theorem pairsL_neg {n : Int} (h : n < 0) : pairsL n = [] := by unfold pairsL; rw [if_neg (by omega), if_pos h]
theorem pairsL_len (n : Int) : (pairsL n).length ≤ 153 := by
 by_cases h1 : 16 < n
 · rw [pairsL_big h1]; simp
 by_cases h2 : n < 0
 · rw [pairsL_neg h2]; simp
 obtain ⟨N, rfl⟩ : ∃ N : Nat, n = N := ⟨n.toNat, by omega⟩
 have hN : N ≤ 16 := by omega
 rw [pairsL_in hN]
 have : ∀ N, N ≤ 16 → (fromL N 0).length ≤ 153 := by decide +kernel
 exact this N hN
def encP (y : Int × Int) : Array Value := #[.int .i64 y.1, .int .i64 y.2]
theorem Places_any (n : Int) (w : World) :
 Calls Tryz.prog 109 #[.int .i64 n] w fun e w' => e = .returned (.func (.func 131) #[] #[.pointer (some ⟨w.heap.size, 0, none⟩)]) ∧ w.alloc (.cells #[.int .i64 n] 3) = w' := by
 go_enter Tryz.func109, Tryz.ntmps109
 go_wp2
 go_ret
 exact ⟨rfl, rfl⟩
theorem nil_places (n : Nat) (w : World) : Sem.run Tryz.prog (binOp BinOp.eql 157 (Value.func (Fn.func 131) #[] #[.pointer (some ⟨n, 0, none⟩)]) Value.nilFunc) w = .ok (.bool false) w := by kernel_rfl
set_option maxRecDepth 100000 in
set_option maxHeartbeats 4000000 in
theorem places_runs (n : Int) (bn B : Nat) (good : Int × Int → Bool) (I : List (Int × Int) → World → Prop) (hI : ∀ p A, I p A → At A bn 3 #[.int .i64 n]) :
 Runs2 Tryz.prog 131 #[] #[.pointer (some ⟨bn, 0, none⟩)] encP good (pairsL n) B I := by
 intro ll J W hWB h0 hJ hJI hY
 refine callsIn_of_wp Tryz.func131 rfl trivial ?_ rfl
 simp only [Tryz.ntmps131, List.size_toArray, List.length_cons, List.length_nil, Nat.reduceAdd, Nat.reduceSub, Array.replicate_succ, Array.replicate_zero, List.push_toArray, List.append_toArray, List.nil_append, List.cons_append]
 have hA0 := hI _ _ (hJI _ _ h0)
 have n0 := hA0.cell 0
 have hbn := hA0.inside
 simp at n0
 have hWs : B ≤ W.heap.size := by omega
 refine wpIn_wide.2 (wp_scope_straight ((wpIn_wide (n := 2)).1 ?_))
 have hI' := Lib.hid hI
 have hY' := Lib.hid hY
 clear hI hY hA0
 by_cases h1 : 16 < n
 · have he := Lib.hid (pairsL_big h1)
   gi_wp2
   simp only [Exit.noGoto_ret]
   refine bodyPost_ret (results_none rfl _ _ _) rfl ?_
   refine ⟨⟨_, rfl⟩, ?_⟩
   rw [he.out]
   exact h0
 by_cases h2 : n < 0
 · have he := Lib.hid (pairsL_neg h2)
   gi_wp2_with fail
   apply wpIn_label
   gi_wp2
   gi_loopw [3] (fun i wr => i = .int .i64 0 ∧ wr = W) (fun i _ => 1 - (intOf i).toNat)
   case atStart => exact ⟨rfl, rfl⟩
   case round =>
    obtain ⟨rfl, rfl⟩ := hrel
    gi_wp2
    simp only [Exit.noGoto_normal]
    go_end0
    refine ⟨⟨_, rfl⟩, ?_⟩
    rw [he.out]
    exact h0
 obtain ⟨N, rfl⟩ : ∃ N : Nat, n = N := ⟨n.toNat, by omega⟩
 have hN : N ≤ 16 := by omega
 obtain ⟨xs, hxs⟩ : ∃ xs, pairsL N = xs := ⟨_, rfl⟩
 have hxs' : Hid (xs = fromL N 0) := Lib.hid (by rw [← hxs, pairsL_in hN])
 rw [hxs] at hY' ⊢
 clear hxs
 gi_wp2_with fail
 apply wpIn_label
 gi_wp2
 gi_loopw [3] (fun i wr => ∃ (pre : List (Int × Int)) (k : Nat), i = .int .i64 k ∧ k ≤ N + 1 ∧ Hid (xs = pre ++ fromL N k) ∧ Hid (∀ y ∈ pre, good y = true) ∧ J pre wr ∧ B ≤ wr.heap.size)
  (fun i _ => N + 1 - (intOf i).toNat)
 case atStart => exact ⟨[], 0, rfl, Nat.zero_le _, hxs', Lib.hid (fun y hy => by cases hy), h0, hWs⟩
 case round =>
  obtain ⟨pre, k, rfl, hk, hx, hg, hj, hs⟩ := hrel
  clear h0
  have hAr := hI'.out _ _ (hJI _ _ hj)
  have n0 := hAr.cell 0
  have hbr := hAr.inside
  simp at n0
  clear hAr
  by_cases hlt : k ≤ N
  · have hx2 : Hid (xs = pre ++ (rowL N k k ++ fromL N (k + 1))) := Lib.hid (by rw [hx.out, fromL_cons hlt])
    clear hx
    obtain ⟨wo, hwo⟩ : ∃ wo, wo = wr := ⟨_, rfl⟩
    subst hwo
    have hkNi : (k : Int) ≤ (N : Int) := by omega
    gi_wp2
    gi_loopw [4] (fun j wr => ∃ (pre : List (Int × Int)) (m : Nat), j = .int .i64 m ∧ m ≤ N + 1 ∧ Hid (xs = pre ++ (rowL N k m ++ fromL N (k + 1))) ∧ Hid (∀ y ∈ pre, good y = true) ∧ J pre wr ∧ B ≤ wr.heap.size)
     (fun j _ => N + 1 - (intOf j).toNat)
    case atStart => exact ⟨pre, k, rfl, by omega, hx2, hg, hj, hs⟩
    case round =>
     clear hj hx2 hg hs n0 hbr pre
     obtain ⟨pre, m, rfl, hm, hx, hg, hj, hs⟩ := hrel
     have hAr := hI'.out _ _ (hJI _ _ hj)
     have n0 := hAr.cell 0
     have hbr := hAr.inside
     simp at n0
     clear hAr
     by_cases hlm : m ≤ N
     · have hx2 : Hid (xs = pre ++ (((k : Int), (m : Int)) :: (rowL N k (m + 1) ++ fromL N (k + 1)))) := Lib.hid (by rw [hx.out, rowL_cons hlm]; rfl)
       obtain ⟨fn, tmps, assign, body, hyy, hR⟩ := hY'.out 1 pre ((k : Int), (m : Int)) wr ⟨_, hx2.out⟩ hj hg.out hs
       dsimp only [encP] at hyy
       have hlmi : (m : Int) ≤ (N : Int) := by omega
       clear hx hj
       gi_wp2_with fail
       refine hR.mono ?_
       clear hR hyy
       rintro e w4 ⟨rfl, hj4, hk4⟩
       have hs4 : B ≤ w4.heap.size := Nat.le_trans hs hk4
       clear hk4
       cases hgood : good ((k : Int), (m : Int))
       · gi_wp2
         simp only [Exit.noGoto_normal]
         go_end0
         refine ⟨⟨_, rfl⟩, ?_⟩
         rw [hx2.out, upTo_append hg.out, upTo_bad hgood]
         exact hj4
       · have hgg := Lib.hid (good_snoc hg.out hgood)
         clear hgood
         gi_wp2
         go_roundw
         case rel => exact ⟨pre ++ [((k : Int), (m : Int))], m + 1, by go_num, by omega, Lib.hid (by rw [hx2.out, List.append_assoc]; rfl), hgg, hj4, hs4⟩
         case measure => simp [intOf]; omega
     · obtain rfl : m = N + 1 := by omega
       have hx2 : Hid (xs = pre ++ fromL N (k + 1)) := Lib.hid (by rw [hx.out, rowL_nil (Nat.lt_succ_self _)]; rfl)
       clear hx
       gi_wp2
       go_roundw
       case rel => exact ⟨pre, k + 1, by go_num, by omega, hx2, hg, hj, hs⟩
       case measure => simp [intOf]; omega
  · obtain rfl : k = N + 1 := by omega
    have hx2 : Hid (xs = pre) := Lib.hid (by rw [hx.out, fromL_nil (Nat.lt_succ_self _), List.append_nil])
    clear hx
    gi_wp2
    simp only [Exit.noGoto_normal]
    go_end0
    refine ⟨⟨_, rfl⟩, ?_⟩
    rw [hx2.out, upTo_all hg.out]
    exact hj
end Go.Proofs.YtlbghdiebjldjaaGreatDoor.Ins
namespace Go.Proofs.YtlbghdiebjldjaaGreatDoor.Cheap
open Go.RowKit Go.Proofs.YtlbghdiebjldjaaGreatDoor.Order Go.Proofs.YtlbghdiebjldjaaGreatDoor.Place Go.Proofs.YtlbghdiebjldjaaGreatDoor.Route Go.Proofs.YtlbghdiebjldjaaGreatDoor.When Go.Proofs.YtlbghdiebjldjaaGreatDoor.Load Go.Proofs.YtlbghdiebjldjaaGreatDoor.Ins
set_option linter.unusedVariables false
structure Wy where
 (i j n : Int)
deriving DecidableEq
def encW (y : Wy) : Array Value := #[.int .i64 y.i, .int .i64 y.j, .int .i64 y.n]
def noW : Wy := ⟨-1, -1, 9223372036854775807⟩
def wayI (v : Vh) (l : List (Int × Int)) (t : List Rq) (r : Int) (y : Int × Int) : Option Wy := if riseE v l t r y.1 y.2 = 0 then some ⟨y.1, y.2, riseV v l t r y.1 y.2⟩ else none
def waysP (v : Vh) (l : List (Int × Int)) (t : List Rq) (r : Int) (ps : List (Int × Int)) : List Wy := ps.filterMap (wayI v l t r)
theorem waysP_snoc (v : Vh) (l : List (Int × Int)) (t : List Rq) (r : Int) (ps : List (Int × Int)) (y : Int × Int) : waysP v l t r (ps ++ [y]) = waysP v l t r ps ++ (wayI v l t r y).toList := by
 unfold waysP
 rw [List.filterMap_append]
 cases h : wayI v l t r y <;> simp [h]
theorem wayI_no {v : Vh} {l : List (Int × Int)} {t : List Rq} {r : Int} {y : Int × Int} (h : riseE v l t r y.1 y.2 ≠ 0) : wayI v l t r y = none := by unfold wayI; rw [if_neg h]
theorem wayI_yes {v : Vh} {l : List (Int × Int)} {t : List Rq} {r : Int} {y : Int × Int} (h : riseE v l t r y.1 y.2 = 0) : wayI v l t r y = some ⟨y.1, y.2, riseV v l t r y.1 y.2⟩ := by unfold wayI; rw [if_pos h]
def headE (v : Vh) (l : List (Int × Int)) (t : List Rq) (r : Int) : Int := if riseE v l t r 0 0 = 0 ∨ riseE v l t r 0 0 = 9 ∨ riseE v l t r 0 0 = 10 then 0 else riseE v l t r 0 0
def lessW (a b : Wy) : Wy := if b.n < a.n then b else a
def leastW (ws : List Wy) : Wy := ws.foldl lessW noW
theorem leastW_snoc (ws : List Wy) (y : Wy) : leastW (ws ++ [y]) = lessW (leastW ws) y := by simp [leastW]
theorem riseV_bd (v : Vh) (l : List (Int × Int)) (t : List Rq) (r i j : Int) : -3000000 ≤ riseV v l t r i j ∧ riseV v l t r i j ≤ 3000000 := by
 unfold riseV
 split
 · have h1 := homeT_bd v (moreL l r i j) t
   have h2 := homeT_bd v l t
   omega
 · omega
theorem waysP_mem {v : Vh} {l : List (Int × Int)} {t : List Rq} {r : Int} {ps : List (Int × Int)} {y : Wy} (h : y ∈ waysP v l t r ps) : (y.i, y.j) ∈ ps ∧ riseE v l t r y.i y.j = 0 ∧ y.n = riseV v l t r y.i y.j := by
 unfold waysP at h
 obtain ⟨p, hp, he⟩ := List.mem_filterMap.1 h
 unfold wayI at he
 split at he
 · cases he; exact ⟨hp, by assumption, rfl⟩
 · cases he
theorem least_of : ∀ (ws : List Wy) (a : Wy), (ws.foldl lessW a = a ∧ ∀ y ∈ ws, a.n ≤ y.n) ∨ ∃ p b q, ws = p ++ b :: q ∧ ws.foldl lessW a = b ∧ b.n < a.n ∧ (∀ y ∈ p, b.n < y.n) ∧ ∀ y ∈ q, b.n ≤ y.n
 | [], a => .inl ⟨rfl, fun y h => absurd h (by simp)⟩
 | w :: ws, a => by
  have ih := least_of ws (lessW a w)
  show ((ws.foldl lessW (lessW a w) = a ∧ _) ∨ ∃ p b q, _ ∧ ws.foldl lessW (lessW a w) = b ∧ _)
  by_cases hl : w.n < a.n
  · have e : lessW a w = w := by unfold lessW; rw [if_pos hl]
    rw [e] at ih ⊢
    right
    rcases ih with ⟨h1, h2⟩ | ⟨p, b, q, h1, h2, h3, h4, h5⟩
    · exact ⟨[], w, ws, rfl, h1, hl, fun y h => absurd h (by simp), h2⟩
    · refine ⟨w :: p, b, q, by rw [h1]; rfl, h2, by omega, ?_, h5⟩
      intro y hy
      rcases List.mem_cons.1 hy with rfl | hy
      · exact h3
      · exact h4 y hy
  · have e : lessW a w = a := by unfold lessW; rw [if_neg hl]
    rw [e] at ih ⊢
    rcases ih with ⟨h1, h2⟩ | ⟨p, b, q, h1, h2, h3, h4, h5⟩
    · left
      refine ⟨h1, ?_⟩
      intro y hy
      rcases List.mem_cons.1 hy with rfl | hy
      · omega
      · exact h2 y hy
    · right
      refine ⟨w :: p, b, q, by rw [h1]; rfl, h2, h3, ?_, h5⟩
      intro y hy
      rcases List.mem_cons.1 hy with rfl | hy
      · omega
      · exact h4 y hy
def Small (ws : List Wy) : Prop := ∀ y ∈ ws, y.n < 9223372036854775807
theorem least_none {ws : List Wy} (h : Small ws) : leastW ws = noW ↔ ws = [] := by
 constructor
 · intro e
   cases ws with
   | nil => rfl
   | cons w ws =>
    exfalso
    rcases least_of (w :: ws) noW with ⟨-, h2⟩ | ⟨p, b, q, h1, h2, h3, -, -⟩
    · have := h2 w (by simp)
      have := h w (by simp)
      simp only [noW] at *
      omega
    · unfold leastW at e
      rw [h2] at e
      rw [e] at h3
      omega
 · rintro rfl; rfl
theorem least_some {ws : List Wy} (h : Small ws) (hn : ws ≠ []) : ∃ p b q, ws = p ++ b :: q ∧ leastW ws = b ∧ (∀ y ∈ p, b.n < y.n) ∧ ∀ y ∈ q, b.n ≤ y.n := by
 rcases least_of ws noW with ⟨h1, -⟩ | ⟨p, b, q, h1, h2, h3, h4, h5⟩
 · exact absurd ((least_none h).1 h1) hn
 · exact ⟨p, b, q, h1, h2, h4, h5⟩
theorem least_head {w : Wy} {ws : List Wy} (h : w.n < 9223372036854775807) : leastW (w :: ws) = ws.foldl lessW w := by
 unfold leastW
 rw [List.foldl_cons]
 congr 1
 unfold lessW noW
 rw [if_pos h]
theorem ways_small (v : Vh) (l : List (Int × Int)) (t : List Rq) (r : Int) (ps : List (Int × Int)) : Small (waysP v l t r ps) := by
 intro y hy
 have h1 := (waysP_mem hy).2.2
 have h2 := riseV_bd v l t r y.i y.j
 omega
def eachL (v : Vh) (l : List (Int × Int)) (t : List Rq) (r : Int) : List Wy := if headE v l t r = 0 then waysP v l t r (pairsL l.length) else []
def bestE (v : Vh) (l : List (Int × Int)) (t : List Rq) (r : Int) : Int := if headE v l t r ≠ 0 then headE v l t r else if eachL v l t r = [] then 12 else 0
def bestW (v : Vh) (l : List (Int × Int)) (t : List Rq) (r : Int) : Wy := if bestE v l t r = 0 then leastW (eachL v l t r) else ⟨0, 0, 0⟩
theorem each_small (v : Vh) (l : List (Int × Int)) (t : List Rq) (r : Int) : Small (eachL v l t r) := by
 unfold eachL
 split
 · exact ways_small _ _ _ _ _
 · intro y h; cases h
theorem bestE_head {v : Vh} {l : List (Int × Int)} {t : List Rq} {r : Int} (h : headE v l t r ≠ 0) : bestE v l t r = headE v l t r := by unfold bestE; rw [if_pos h]
theorem bestE_none {v : Vh} {l : List (Int × Int)} {t : List Rq} {r : Int} (h : headE v l t r = 0) (h2 : eachL v l t r = []) : bestE v l t r = 12 := by unfold bestE; rw [if_neg (by omega), if_pos h2]
theorem bestE_ok {v : Vh} {l : List (Int × Int)} {t : List Rq} {r : Int} (h : headE v l t r = 0) (h2 : eachL v l t r ≠ []) : bestE v l t r = 0 := by unfold bestE; rw [if_neg (by omega), if_neg h2]
theorem bestE_zero {v : Vh} {l : List (Int × Int)} {t : List Rq} {r : Int} (h : bestE v l t r = 0) : headE v l t r = 0 ∧ eachL v l t r ≠ [] := by
 unfold bestE at h
 split at h
 · omega
 split at h
 · omega
 · exact ⟨by omega, by assumption⟩
theorem bestW_no {v : Vh} {l : List (Int × Int)} {t : List Rq} {r : Int} (h : bestE v l t r ≠ 0) : bestW v l t r = ⟨0, 0, 0⟩ := by unfold bestW; rw [if_neg h]
theorem bestW_ok {v : Vh} {l : List (Int × Int)} {t : List Rq} {r : Int} (h : bestE v l t r = 0) : bestW v l t r = leastW (eachL v l t r) := by unfold bestW; rw [if_pos h]
theorem best_in {v : Vh} {l : List (Int × Int)} {t : List Rq} {r : Int} (h : bestE v l t r = 0) : riseE v l t r (bestW v l t r).i (bestW v l t r).j = 0 ∧ (bestW v l t r).n = riseV v l t r (bestW v l t r).i (bestW v l t r).j := by
 have hz := bestE_zero h
 obtain ⟨p, b, q, h1, h2, -, -⟩ := least_some (each_small v l t r) hz.2
 rw [bestW_ok h, h2]
 have hm : b ∈ eachL v l t r := by rw [h1]; simp
 unfold eachL at hm
 rw [if_pos hz.1] at hm
 exact (waysP_mem hm).2
theorem best_least {v : Vh} {l : List (Int × Int)} {t : List Rq} {r : Int} (h : bestE v l t r = 0) : ∃ p q, waysP v l t r (pairsL l.length) = p ++ bestW v l t r :: q ∧ (∀ y ∈ p, (bestW v l t r).n < y.n) ∧ ∀ y ∈ q, (bestW v l t r).n ≤ y.n := by
 have hz := bestE_zero h
 obtain ⟨p, b, q, h1, h2, h3, h4⟩ := least_some (each_small v l t r) hz.2
 rw [bestW_ok h, h2]
 refine ⟨p, q, ?_, h3, h4⟩
 rw [← h1]
 unfold eachL
 rw [if_pos hz.1]
def reqC (t : List Rq) (r : Int) : Int := ((t[r.toNat]?).map fun q => q.chk).getD 1
def rightE (v : Vh) (l : List (Int × Int)) (t : List Rq) (r : Int) : Int :=
 if (inT t r && noR r l) = false then 8 else if reqC t r ≠ 0 ∨ v.chk ≠ 0 then 2 else if errT v l t = 9 then 0 else if errT v l t ≠ 0 then errT v l t else if 14 < l.length then 11 else 0
theorem reqC_at {t : List Rq} {r : Nat} {q : Rq} (h : t[r]? = some q) : reqC t r = q.chk := by unfold reqC; rw [Int.toNat_natCast, h]; rfl
theorem rightE_req {v : Vh} {l : List (Int × Int)} {t : List Rq} {r : Int} (h : (inT t r && noR r l) = false) : rightE v l t r = 8 := by unfold rightE; rw [if_pos h]
theorem rightE_arg {v : Vh} {l : List (Int × Int)} {t : List Rq} {r : Int} (h : (inT t r && noR r l) = true) (h2 : reqC t r ≠ 0 ∨ v.chk ≠ 0) : rightE v l t r = 2 := by unfold rightE; rw [if_neg (by simp [h]), if_pos h2]
theorem rightE_late {v : Vh} {l : List (Int × Int)} {t : List Rq} {r : Int} (h : (inT t r && noR r l) = true) (h2 : reqC t r = 0) (h3 : v.chk = 0) (h4 : errT v l t = 9) : rightE v l t r = 0 := by unfold rightE; rw [if_neg (by simp [h]), if_neg (by omega), if_pos h4]
theorem rightE_err {v : Vh} {l : List (Int × Int)} {t : List Rq} {r : Int} (h : (inT t r && noR r l) = true) (h2 : reqC t r = 0) (h3 : v.chk = 0) (h4 : errT v l t ≠ 9) (h5 : errT v l t ≠ 0) : rightE v l t r = errT v l t := by unfold rightE; rw [if_neg (by simp [h]), if_neg (by omega), if_neg h4, if_pos h5]
theorem rightE_count {v : Vh} {l : List (Int × Int)} {t : List Rq} {r : Int} (h : (inT t r && noR r l) = true) (h2 : reqC t r = 0) (h3 : v.chk = 0) (h5 : errT v l t = 0) (h6 : 14 < l.length) : rightE v l t r = 11 := by unfold rightE; rw [if_neg (by simp [h]), if_neg (by omega), if_neg (by omega), if_neg (by omega), if_pos h6]
theorem rightE_ok {v : Vh} {l : List (Int × Int)} {t : List Rq} {r : Int} (h : (inT t r && noR r l) = true) (h2 : reqC t r = 0) (h3 : v.chk = 0) (h5 : errT v l t = 0) (h6 : ¬ 14 < l.length) : rightE v l t r = 0 := by unfold rightE; rw [if_neg (by simp [h]), if_neg (by omega), if_neg (by omega), if_neg (by omega), if_neg h6]
theorem noRs {r : Int} {l : List (Int × Int)} {k : Nat} {s : Int × Int} (h : l[k]? = some s) (hr : s.1 ≠ r) (h0 : noR r (l.take k) = true) : noR r (l.take (k + 1)) = true := by
 rw [List.take_add_one, h]
 show noR r (l.take k ++ [s]) = true
 rw [noR_append, h0]
 simp [noR, hr]
theorem noRh {r : Int} {l : List (Int × Int)} {k : Nat} {s : Int × Int} (h : l[k]? = some s) (hr : s.1 = r) : noR r l = false := by
 cases e : noR r l
 · rfl
 · exact absurd hr (noR_iff.1 e s (List.mem_of_getElem? h))
end Go.Proofs.YtlbghdiebjldjaaGreatDoor.Cheap
namespace Go.Proofs.YtlbghdiebjldjaaGreatDoor.Plan
open Go.RowKit Go.Proofs.YtlbghdiebjldjaaGreatDoor.Order Go.Proofs.YtlbghdiebjldjaaGreatDoor.Place Go.Proofs.YtlbghdiebjldjaaGreatDoor.Route Go.Proofs.YtlbghdiebjldjaaGreatDoor.When Go.Proofs.YtlbghdiebjldjaaGreatDoor.Load Go.Proofs.YtlbghdiebjldjaaGreatDoor.Feas Go.Proofs.YtlbghdiebjldjaaGreatDoor.Ins Go.Proofs.YtlbghdiebjldjaaGreatDoor.Cheap
set_option linter.unusedVariables false
structure St where
 vs : List Vh
 t : List Rq
 rows : List (List (Int × Int))
def whF (r : Int) : Nat → List (List (Int × Int)) → Int
 | _, [] => -1
 | k, l :: rs => if noR r l then whF r (k + 1) rs else k
def whereV (rows : List (List (Int × Int))) (r : Int) : Int := whF r 0 rows
theorem whF_skip {r : Int} : ∀ {p q : List (List (Int × Int))} {k : Nat}, (∀ x ∈ p, noR r x = true) → whF r k (p ++ q) = whF r (k + p.length) q
 | [], q, k, _ => rfl
 | x :: p, q, k, h => by
  rw [List.cons_append, whF, if_pos (h x (by simp)), whF_skip (fun y hy => h y (by simp [hy])), List.length_cons]
  congr 1
  omega
theorem whF_hit {r : Int} {k : Nat} {l : List (Int × Int)} {q : List (List (Int × Int))} (h : noR r l = false) : whF r k (l :: q) = k := by rw [whF, if_neg (by simp [h])]
theorem whF_none {r : Int} : ∀ {rows : List (List (Int × Int))} {k : Nat}, whF r k rows < 0 ↔ ∀ l ∈ rows, noR r l = true
 | [], k => by simp [whF]
 | l :: rs, k => by
  rw [whF]
  split
  · rename_i h
    rw [whF_none]
    simp [h]
  · rename_i h
    constructor
    · intro h2; omega
    · intro h2; exact absurd (h2 l (by simp)) h
theorem whF_neg {r : Int} {rows : List (List (Int × Int))} {k : Nat} (h : ∀ l ∈ rows, noR r l = true) : whF r k rows = -1 := by
 have := whF_skip (q := []) (k := k) h
 rwa [List.append_nil] at this
theorem where_neg {r : Int} {rows : List (List (Int × Int))} : whereV rows r < 0 ↔ ∀ l ∈ rows, noR r l = true := whF_none
theorem where_no {r : Int} {rows : List (List (Int × Int))} (h : ∀ l ∈ rows, noR r l = true) : whereV rows r = -1 := whF_neg h
theorem where_at {r : Int} {rows : List (List (Int × Int))} {i : Nat} {l : List (Int × Int)} (h : rows[i]? = some l) (hl : noR r l = false) (hp : ∀ x ∈ rows.take i, noR r x = true) : whereV rows r = i := by
 have hlt := (List.getElem?_eq_some_iff.1 h).1
 have e : rows = rows.take i ++ l :: rows.drop (i + 1) := by
  rw [← (List.getElem?_eq_some_iff.1 h).2, ← List.drop_eq_getElem_cons hlt, List.take_append_drop]
 unfold whereV
 rw [e, whF_skip hp, whF_hit hl, List.length_take]
 omega
theorem whF_some {r : Int} : ∀ {rows : List (List (Int × Int))} {k : Nat}, 0 ≤ whF r k rows → ∃ (i : Nat) (l : List (Int × Int)), whF r k rows = ((k + i : Nat) : Int) ∧ rows[i]? = some l ∧ noR r l = false ∧ ∀ x ∈ rows.take i, noR r x = true
 | [], k, h => by simp [whF] at h
 | l :: rs, k, h => by
  cases h1 : noR r l
  · exact ⟨0, l, by rw [whF_hit h1]; simp, rfl, h1, fun x hx => by simp at hx⟩
  · rw [whF, if_pos h1] at h ⊢
    obtain ⟨i, m, e, h2, h3, h4⟩ := whF_some h
    refine ⟨i + 1, m, by rw [e]; congr 1; omega, by simpa using h2, h3, fun x hx => ?_⟩
    rw [List.take_succ_cons] at hx
    rcases List.mem_cons.1 hx with rfl | hx
    · exact h1
    · exact h4 x hx
theorem where_some {r : Int} {rows : List (List (Int × Int))} (h : 0 ≤ whereV rows r) : ∃ (i : Nat) (l : List (Int × Int)), whereV rows r = i ∧ rows[i]? = some l ∧ noR r l = false ∧ ∀ x ∈ rows.take i, noR r x = true := by
 obtain ⟨i, l, e, h1, h2, h3⟩ := whF_some h
 exact ⟨i, l, by unfold whereV; rw [e]; simp, h1, h2, h3⟩
theorem where_bd (rows : List (List (Int × Int))) (r : Int) : -1 ≤ whereV rows r ∧ whereV rows r < rows.length := by
 by_cases h : 0 ≤ whereV rows r
 · obtain ⟨i, l, e, h1, -, -⟩ := where_some h
   have := (List.getElem?_eq_some_iff.1 h1).1
   omega
 · have := where_no (where_neg.1 (by omega : whereV rows r < 0))
   omega
def accP (f : Nat → Option Int) : Nat → Int × Int
 | 0 => (-1, 0)
 | k + 1 => match f k with
  | some n => if (accP f k).1 < 0 ∨ n < (accP f k).2 then ((k : Int), n) else accP f k
  | none => accP f k
theorem acc_skip {f : Nat → Option Int} {k : Nat} (h : f k = none) : accP f (k + 1) = accP f k := by rw [accP, h]
theorem acc_take {f : Nat → Option Int} {k : Nat} {n : Int} (h : f k = some n) (h2 : (accP f k).1 < 0 ∨ n < (accP f k).2) : accP f (k + 1) = ((k : Int), n) := by simp only [accP, h]; rw [if_pos h2]
theorem acc_leave {f : Nat → Option Int} {k : Nat} {n : Int} (h : f k = some n) (h2 : ¬ ((accP f k).1 < 0 ∨ n < (accP f k).2)) : accP f (k + 1) = accP f k := by simp only [accP, h]; rw [if_neg h2]
theorem acc_is (f : Nat → Option Int) : ∀ k, (accP f k = (-1, 0) ∧ ∀ j, j < k → f j = none) ∨ ∃ (i : Nat) (n : Int), i < k ∧ accP f k = ((i : Int), n) ∧ f i = some n ∧ (∀ j m, j < k → f j = some m → n ≤ m) ∧ ∀ j m, j < i → f j = some m → n < m
 | 0 => .inl ⟨rfl, fun j h => absurd h (by omega)⟩
 | k + 1 => by
  have ih := acc_is f k
  cases hf : f k with
  | none =>
   rw [acc_skip hf]
   rcases ih with ⟨h1, h2⟩ | ⟨i, n, h1, h2, h3, h4, h5⟩
   · refine .inl ⟨h1, fun j hj => ?_⟩
     by_cases h : j = k
     · rw [h, hf]
     · exact h2 j (by omega)
   · refine .inr ⟨i, n, by omega, h2, h3, fun j m hj hm => ?_, h5⟩
     by_cases h : j = k
     · rw [h, hf] at hm; cases hm
     · exact h4 j m (by omega) hm
  | some n =>
   by_cases hc : (accP f k).1 < 0 ∨ n < (accP f k).2
   · rw [acc_take hf hc]
     refine .inr ⟨k, n, by omega, rfl, hf, fun j m hj hm => ?_, fun j m hj hm => ?_⟩
     · by_cases h : j = k
       · rw [h, hf] at hm; cases hm; omega
       · rcases ih with ⟨h1, h2⟩ | ⟨i, n', h1, h2, h3, h4, h5⟩
         · rw [h2 j (by omega)] at hm; cases hm
         · have := h4 j m (by omega) hm
           rw [h2] at hc
           simp only at hc
           omega
     · rcases ih with ⟨h1, h2⟩ | ⟨i, n', h1, h2, h3, h4, h5⟩
       · rw [h2 j (by omega)] at hm; cases hm
       · have := h4 j m (by omega) hm
         rw [h2] at hc
         simp only at hc
         omega
   · rw [acc_leave hf hc]
     rcases ih with ⟨h1, h2⟩ | ⟨i, n', h1, h2, h3, h4, h5⟩
     · exact absurd (.inl (by rw [h1]; decide)) hc
     · refine .inr ⟨i, n', by omega, h2, h3, fun j m hj hm => ?_, h5⟩
       by_cases h : j = k
       · rw [h, hf] at hm
         cases hm
         rw [h2] at hc
         simp only at hc
         omega
       · exact h4 j m (by omega) hm
def bestF (S : St) (r : Int) (i : Nat) : Option Int :=
 match S.vs[i]?, S.rows[i]? with
 | some v, some l => if bestE v l S.t r = 0 then some (bestW v l S.t r).n else none
 | _, _ => none
theorem bestF_at {S : St} {r : Int} {i : Nat} {v : Vh} {l : List (Int × Int)} (hv : S.vs[i]? = some v) (hl : S.rows[i]? = some l) : bestF S r i = if bestE v l S.t r = 0 then some (bestW v l S.t r).n else none := by unfold bestF; rw [hv, hl]
def priceE (S : St) (r : Int) : Int := if inT S.t r = false then 8 else if 0 ≤ whereV S.rows r then 13 else if (accP (bestF S r) S.vs.length).1 < 0 then 12 else 0
def priceI (S : St) (r : Int) : Int := if priceE S r = 0 then (accP (bestF S r) S.vs.length).1 else 0
def priceN (S : St) (r : Int) : Int := if priceE S r = 0 then (accP (bestF S r) S.vs.length).2 else 0
theorem priceE_stop {S : St} {r : Int} (h : inT S.t r = false) : priceE S r = 8 := by unfold priceE; rw [if_pos h]
theorem priceE_twice {S : St} {r : Int} (h : inT S.t r = true) (h2 : 0 ≤ whereV S.rows r) : priceE S r = 13 := by unfold priceE; rw [if_neg (by simp [h]), if_pos h2]
theorem priceE_none {S : St} {r : Int} (h : inT S.t r = true) (h2 : whereV S.rows r < 0) (h3 : (accP (bestF S r) S.vs.length).1 < 0) : priceE S r = 12 := by unfold priceE; rw [if_neg (by simp [h]), if_neg (by omega), if_pos h3]
theorem priceE_ok {S : St} {r : Int} (h : inT S.t r = true) (h2 : whereV S.rows r < 0) (h3 : ¬ (accP (bestF S r) S.vs.length).1 < 0) : priceE S r = 0 := by unfold priceE; rw [if_neg (by simp [h]), if_neg (by omega), if_neg h3]
theorem priceE_zero {S : St} {r : Int} (h : priceE S r = 0) : inT S.t r = true ∧ whereV S.rows r < 0 ∧ 0 ≤ (accP (bestF S r) S.vs.length).1 := by
 unfold priceE at h
 split at h
 · omega
 rename_i h1
 split at h
 · omega
 split at h
 · omega
 exact ⟨by simpa using h1, by omega, by omega⟩
theorem price_no {S : St} {r : Int} (h : priceE S r ≠ 0) : priceI S r = 0 ∧ priceN S r = 0 := by unfold priceI priceN; rw [if_neg h, if_neg h]; exact ⟨rfl, rfl⟩
theorem price_yes {S : St} {r : Int} (h : priceE S r = 0) : priceI S r = (accP (bestF S r) S.vs.length).1 ∧ priceN S r = (accP (bestF S r) S.vs.length).2 := by unfold priceI priceN; rw [if_pos h, if_pos h]; exact ⟨rfl, rfl⟩
theorem price_at {S : St} {r : Int} (h : priceE S r = 0) : ∃ (i : Nat) (v : Vh) (l : List (Int × Int)), priceI S r = i ∧ S.vs[i]? = some v ∧ S.rows[i]? = some l ∧ bestE v l S.t r = 0 ∧ priceN S r = (bestW v l S.t r).n := by
 obtain ⟨h1, h2, h3⟩ := priceE_zero h
 rcases acc_is (bestF S r) S.vs.length with ⟨e, -⟩ | ⟨i, n, hi, e, hf, -, -⟩
 · rw [e] at h3; simp at h3
 · obtain ⟨p1, p2⟩ := price_yes h
   rw [e] at p1 p2
   unfold bestF at hf
   split at hf
   · rename_i v l hv hl
     split at hf
     · rename_i hb
       refine ⟨i, v, l, p1, hv, hl, hb, ?_⟩
       rw [p2]
       exact (Option.some.inj hf).symm
     · cases hf
   · cases hf
def putS (S : St) (r : Int) : St :=
 match S.vs[(priceI S r).toNat]?, S.rows[(priceI S r).toNat]? with
 | some v, some l => if priceE S r = 0 then { S with rows := S.rows.set (priceI S r).toNat (moreL l r (bestW v l S.t r).i (bestW v l S.t r).j) } else S
 | _, _ => S
theorem putS_no {S : St} {r : Int} (h : priceE S r ≠ 0) : putS S r = S := by
 unfold putS
 split
 · rw [if_neg h]
 · rfl
theorem putS_yes {S : St} {r : Int} (h : priceE S r = 0) {i : Nat} {v : Vh} {l : List (Int × Int)} (hi : priceI S r = i) (hv : S.vs[i]? = some v) (hl : S.rows[i]? = some l) :
 putS S r = { S with rows := S.rows.set i (moreL l r (bestW v l S.t r).i (bestW v l S.t r).j) } := by
 unfold putS
 rw [hi, Int.toNat_natCast, hv, hl]
 simp only
 rw [if_pos h]
def takeE (S : St) (r : Int) : Int := if whereV S.rows r < 0 then 12 else 0
def takeS (S : St) (r : Int) : St :=
 match S.rows[(whereV S.rows r).toNat]? with
 | some l => if whereV S.rows r < 0 then S else { S with rows := S.rows.set (whereV S.rows r).toNat (woL r l) }
 | none => S
theorem takeS_no {S : St} {r : Int} (h : whereV S.rows r < 0) : takeS S r = S := by
 unfold takeS
 split
 · rw [if_pos h]
 · rfl
theorem takeS_yes {S : St} {r : Int} {i : Nat} {l : List (Int × Int)} (h : whereV S.rows r = i) (hl : S.rows[i]? = some l) : takeS S r = { S with rows := S.rows.set i (woL r l) } := by
 unfold takeS
 rw [h, Int.toNat_natCast, hl]
 simp only
 rw [if_neg (by omega)]
def totR (t : List Rq) : List Vh → List (List (Int × Int)) → Int
 | v :: vs, l :: ls => (homeT v l t - v.st) + totR t vs ls
 | _, _ => 0
def totS (S : St) : Int := totR S.t S.vs S.rows
theorem totR_set (t : List Rq) : ∀ {vs : List Vh} {ls : List (List (Int × Int))} {i : Nat} {v : Vh} {l : List (Int × Int)} (m : List (Int × Int)), vs[i]? = some v → ls[i]? = some l → totR t vs (ls.set i m) = totR t vs ls + (homeT v m t - homeT v l t)
 | [], _, i, v, l, m, hv, _ => by simp at hv
 | _ :: _, [], i, v, l, m, _, hl => by simp at hl
 | v0 :: vs, l0 :: ls, 0, v, l, m, hv, hl => by
  simp at hv hl
  subst hv; subst hl
  simp [totR]
  omega
 | v0 :: vs, l0 :: ls, i + 1, v, l, m, hv, hl => by
  simp at hv hl
  have := totR_set t m hv hl
  simp [totR, this]
  omega
def allS (S : St) : List Int := (List.range S.t.length).filterMap fun (k : Nat) => if 0 ≤ whereV S.rows k then some (k : Int) else none
structure Ok (S : St) : Prop where
 len : S.rows.length = S.vs.length
 cnt : 1 ≤ S.vs.length ∧ S.vs.length ≤ 4
 tl : S.t.length ≤ 1000
 dr : ∀ (i : Nat) v l, S.vs[i]? = some v → S.rows[i]? = some l → Feas.Dr v l S.t ∧ errT v l S.t = 0 ∧ fitE v l S.t = 0 ∧ Nums l
 one : ∀ (i j : Nat) l m r, S.rows[i]? = some l → S.rows[j]? = some m → noR r l = false → noR r m = false → i = j
theorem noR_woL (q r : Int) (l : List (Int × Int)) : noR q (woL r l) = (decide (q = r) || noR q l) := by
 rw [Bool.eq_iff_iff]
 simp only [noR_iff, Bool.or_eq_true, decide_eq_true_eq]
 constructor
 · intro h
   by_cases e : q = r
   · exact .inl e
   · exact .inr fun s hs hq => h s (by simp [woL, hs, hq, e]) hq
 · rintro (rfl | h) s hs
   · have : s ∈ l ∧ s.1 ≠ q := by simpa [woL] using hs
     exact this.2
   · have : s ∈ l ∧ s.1 ≠ r := by simpa [woL] using hs
     exact h s this.1
theorem noR_moreL {l : List (Int × Int)} {r i j : Int} (hm : mayW l r i j = true) (q : Int) : noR q (moreL l r i j) = (decide (q ≠ r) && noR q l) := by
 have hi := mayW_iff.1 hm
 obtain ⟨a, b, c, e, ha, hb⟩ := parts (l := l) (i := i.toNat) (j := j.toNat) (by omega) (by omega)
 unfold moreL
 rw [← hb, ← ha, e, withL_parts, Bool.eq_iff_iff]
 simp only [noR_iff, Bool.and_eq_true, decide_eq_true_eq, List.mem_append, List.mem_cons]
 constructor
 · intro h
   refine ⟨fun e => h (r, 0) (.inr (.inl rfl)) e.symm, fun s hs => ?_⟩
   rcases hs with (hs | hs) | hs
   · exact h s (.inl hs)
   · exact h s (.inr (.inr (.inl hs)))
   · exact h s (.inr (.inr (.inr (.inr hs))))
 · rintro ⟨h1, h2⟩ s (hs | rfl | hs | rfl | hs)
   · exact h2 s (.inl (.inl hs))
   · exact fun e => h1 e.symm
   · exact h2 s (.inl (.inr hs))
   · exact fun e => h1 e.symm
   · exact h2 s (.inr hs)
theorem moreDr {v : Vh} {l : List (Int × Int)} {t : List Rq} {r i j : Int} (h : Feas.Dr v l t) (hm : mayW l r i j = true) (hr : r < t.length) (hl : l.length ≤ 14) : Feas.Dr v (moreL l r i j) t :=
 ⟨h.hv, h.ht, isR_with hm h.hl, by rw [moreL_length hm]; omega, fun s hs => by
  unfold moreL withL at hs
  simp only [List.mem_append, List.mem_cons] at hs
  rcases hs with hs | rfl | hs | rfl | hs
  · exact h.hr s (List.mem_of_mem_take hs)
  · exact hr
  · exact h.hr s (List.mem_of_mem_take (List.mem_of_mem_drop hs))
  · exact hr
  · exact h.hr s (List.mem_of_mem_drop hs)⟩
theorem nums_less {l : List (Int × Int)} {r : Int} (h : Nums l) : Nums (woL r l) := fun s hs => h s (List.mem_filter.1 hs).1
theorem head_right {v : Vh} {l : List (Int × Int)} {t : List Rq} (h : Feas.Dr v l t) (he : errT v l t = 0) (r : Int) : headE v l t r = rightE v l t r := by
 cases h1 : (inT t r && noR r l)
 · have hw : riseE v l t r 0 0 = 8 := by rw [riseE_with (by rw [withE_req h1]; omega), withE_req h1]
   unfold headE
   rw [hw, rightE_req h1]
   decide
 have h2 := h1
 simp only [Bool.and_eq_true] at h2
 have hin := inT_iff.1 h2.1
 have hq : reqC t r = 0 := by
  obtain ⟨R, rfl⟩ : ∃ R : Nat, r = R := ⟨r.toNat, by omega⟩
  have hlt : R < t.length := by omega
  rw [reqC_at (List.getElem?_eq_getElem hlt)]
  exact h.ht _ (List.getElem_mem hlt)
 by_cases h14 : 14 < l.length
 · have hw : riseE v l t r 0 0 = 11 := by rw [riseE_with (by rw [withE_count h1 he h14]; omega), withE_count h1 he h14]
   unfold headE
   rw [hw, rightE_count h1 hq h.hv he h14]
   decide
 · have hpl : placesB l.length 0 0 = true := placesB_iff.2 ⟨by omega, by omega, by omega⟩
   have hmay : mayW l r 0 0 = true := by rw [mayW_places h1 h14]; exact hpl
   have hd := moreDr h hmay (by omega) (by omega)
   have hw := withE_ok (i := 0) (j := 0) h1 he h14 hpl
   rw [rightE_ok h1 hq h.hv he h14]
   have hval : riseE v l t r 0 0 = 0 ∨ riseE v l t r 0 0 = 9 ∨ riseE v l t r 0 0 = 10 := by
    unfold riseE
    rw [if_neg (by omega)]
    rcases hd.agree with ⟨_, h5, h6⟩ | ⟨_, h5, _⟩ | ⟨_, h5, h6⟩
    · left; rw [h6, h5]; rfl
    · right; right; rw [h5]; rfl
    · rcases h6 with h6 | ⟨h6, _⟩
      · right; left; rw [h6, h5]; rfl
      · right; right; rw [h6]; rfl
   unfold headE
   rw [if_pos hval]
end Go.Proofs.YtlbghdiebjldjaaGreatDoor.Plan

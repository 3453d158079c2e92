import Derived.Test.YteclpblfleakhaaDoorPkLoadChk

namespace Go.Proofs.YteclpblfleakhaaDoor.Ins
open Go.RowKit Go.Proofs.YteclpblfleakhaaDoor.Order Go.Proofs.YteclpblfleakhaaDoor.Place Go.Proofs.YteclpblfleakhaaDoor.Route Go.Proofs.YteclpblfleakhaaDoor.When Go.Proofs.YteclpblfleakhaaDoor.Load Go.Proofs.YteclpblfleakhaaDoor.Feas
set_option linter.unusedVariables false
theorem fault_iff {v : Vh} {l : List (Int × Int)} {t : List Rq} (h : Feas.Dr v l t) : (faultV v l t).1 = 0 ↔ errT v l t = 0 ∧ fitE v l t = 0 := by
 rcases h.agree with ⟨h1, h2, h3⟩ | ⟨h1, h2, _⟩ | ⟨h1, h2, _⟩ <;> omega
theorem less_fault {v : Vh} {l : List (Int × Int)} {t : List Rq} (h : Feas.Dr v l t) (r : Int) (hf : (faultV v l t).1 = 0) : errT v (woL r l) t = 0 ∧ fitE v (woL r l) t = 0 :=
 (fault_iff (h.less r)).1 ((less_serves h r).2 hf)
theorem rise_iff {v : Vh} {l : List (Int × Int)} {t : List Rq} {r i j : Int} (hm : Feas.Dr v (moreL l r i j) t) (hw : mayW l r i j = true) (hr : inT t r = true) (hl : l.length ≤ 14) :
 riseE v l t r i j = 0 ↔ (faultV v (moreL l r i j) t).1 = 0 := by
 have hwi := mayW_iff.1 hw
 rw [fault_iff hm]
 constructor
 · intro h
   have := riseE_zero h
   exact ⟨this.2.2, this.2.1⟩
 · intro h
   have hl0 := less_fault hm r ((fault_iff hm).2 h)
   have e : woL r (moreL l r i j) = l := wo_with hw
   rw [e] at hl0
   have hto : (inT t r && noR r l) = true := by rw [hr, hwi.2.2.2.2.2]; rfl
   have hz : withE v l t r i j = 0 := withE_ok hto hl0.1 (by omega) (by rw [placesB_iff]; exact ⟨hwi.1, hwi.2.1, hwi.2.2.1⟩)
   rw [riseE_err hz h.2]
   exact h.1
theorem endT_early {v : Vh} {l : List (Int × Int)} {t : List Rq} (h : Feas.Dr v l t) (he : errT v l t = 0) : earlyL (sp0 v) (visL t l) = some (endA (sp0 v) (visL t l)) := by
 have ho := (When.errT_zero he).2
 unfold When.okT at ho
 rw [Bool.and_eq_true] at ho
 exact ((early_sched (a := sp0 v) h.visL).1 ho.1).1
theorem home_may {v : Vh} (h : v.chk = 0) : MayV (homeV v) := by
 unfold Vh.chk at h
 exact ⟨((veh_iff ..).1 h).1, Int.le_refl _⟩
theorem less_home {v : Vh} {l : List (Int × Int)} {t : List Rq} (h : Feas.Dr v l t) (r : Int) (he : errT v l t = 0) (he' : errT v (woL r l) t = 0) : homeT v (woL r l) t ≤ homeT v l t := by
 rw [homeT_ok he, homeT_ok he']
 obtain ⟨b', e1, e2⟩ := early_less (r := r) (g := visV t) (a' := sp0 v) h.may (home_may h.hv).1 (endT_early h he) (fun p _ => Int.le_refl _)
 have e3 := endT_early (h.less r) he'
 obtain rfl : b' = endA (sp0 v) (visL t (woL r l)) := Option.some.inj (e1.symm.trans e3)
 exact later_at e2 (home_may h.hv)
end Go.Proofs.YteclpblfleakhaaDoor.Ins
namespace Go.Proofs.YteclpblfleakhaaDoor.Ins
open Go.RowKit Go.Shelf Go.Proofs.YteclpblfleakhaaDoor.Mem Go.Proofs.YteclpblfleakhaaDoor.Route Go.Proofs.YteclpblfleakhaaDoor.When Go.Proofs.YteclpblfleakhaaDoor.Up
set_option linter.unusedVariables false
attribute [local go_sem] Oper.semAt_some
def rowL (N i j : Nat) : List (Int × Int) := (List.range' j (N + 1 - j)).map fun (k : Nat) => ((i : Int), (k : Int))
def fromL (N i : Nat) : List (Int × Int) := (List.range' i (N + 1 - i)).flatMap fun a => rowL N a a
def pairsL (n : Int) : List (Int × Int) := if 16 < n then [] else if n < 0 then [] else fromL n.toNat 0
theorem rowL_cons {N i j : Nat} (h : j ≤ N) : rowL N i j = ((i : Int), (j : Int)) :: rowL N i (j + 1) := by
 unfold rowL
 rw [show N + 1 - j = (N + 1 - (j + 1)) + 1 by omega, List.range'_succ]
 rfl
theorem rowL_nil {N i j : Nat} (h : N < j) : rowL N i j = [] := by
 unfold rowL
 rw [show N + 1 - j = 0 by omega]
 rfl
theorem fromL_cons {N i : Nat} (h : i ≤ N) : fromL N i = rowL N i i ++ fromL N (i + 1) := by
 unfold fromL
 rw [show N + 1 - i = (N + 1 - (i + 1)) + 1 by omega, List.range'_succ]
 rfl
theorem fromL_nil {N i : Nat} (h : N < i) : fromL N i = [] := by
 unfold fromL
 rw [show N + 1 - i = 0 by omega]
 rfl
theorem pairsL_in {N : Nat} (h : N ≤ 16) : pairsL N = fromL N 0 := by
 unfold pairsL
 rw [if_neg (by omega), if_neg (by omega), Int.toNat_natCast]
theorem pairsL_big {n : Int} (h : 16 < n) : pairsL n = [] := by unfold pairsL; rw [if_pos h]
theorem pairsL_neg {n : Int} (h : n < 0) : pairsL n = [] := by unfold pairsL; rw [if_neg (by omega), if_pos h]
def encP (y : Int × Int) : Array Value := #[.int .i64 y.1, .int .i64 y.2]
theorem Places_any (n : Int) (w : World) :
 Calls Tryd.prog 78 #[.int .i64 n] w fun e w' => e = .returned (.func (.func 85) #[] #[.pointer (some ⟨w.heap.size, 0, none⟩)]) ∧ w.alloc (.cells #[.int .i64 n] 3) = w' := by
 go_enter Tryd.func78, Tryd.ntmps78
 go_wp2
 go_ret
 exact ⟨rfl, rfl⟩
theorem nil_places (n : Nat) (w : World) : Sem.run Tryd.prog (binOp BinOp.eql 149 (Value.func (Fn.func 85) #[] #[.pointer (some ⟨n, 0, none⟩)]) Value.nilFunc) w = .ok (.bool false) w := by kernel_rfl
set_option maxRecDepth 100000 in
set_option maxHeartbeats 4000000 in
theorem places_runs (n : Int) (bn B : Nat) (good : Int × Int → Bool) (I : List (Int × Int) → World → Prop) (hI : ∀ p A, I p A → At A bn 3 #[.int .i64 n]) :
 Runs2 Tryd.prog 85 #[] #[.pointer (some ⟨bn, 0, none⟩)] encP good (pairsL n) B I := by
 intro ll J W hWB h0 hJ hJI hY
 refine callsIn_of_wp Tryd.func85 rfl trivial ?_ rfl
 simp only [Tryd.ntmps85, List.size_toArray, List.length_cons, List.length_nil, Nat.reduceAdd, Nat.reduceSub, Array.replicate_succ, Array.replicate_zero, List.push_toArray, List.append_toArray, List.nil_append, List.cons_append]
 have hA0 := hI _ _ (hJI _ _ h0)
 have n0 := hA0.cell 0
 have hbn := hA0.inside
 simp at n0
 have hWs : B ≤ W.heap.size := by omega
 refine wpIn_wide.2 (wp_scope_straight ((wpIn_wide (n := 2)).1 ?_))
 have hI' := Lib.hid hI
 have hY' := Lib.hid hY
 clear hI hY hA0
 by_cases h1 : 16 < n
 · have he := Lib.hid (pairsL_big h1)
   gi_wp2
   simp only [Exit.noGoto_ret]
   refine bodyPost_ret (results_none rfl _ _ _) rfl ?_
   refine ⟨⟨_, rfl⟩, ?_⟩
   rw [he.out]
   exact h0
 by_cases h2 : n < 0
 · have he := Lib.hid (pairsL_neg h2)
   gi_wp2_with fail
   apply wpIn_label
   gi_wp2
   gi_loopw [3] (fun i wr => i = .int .i64 0 ∧ wr = W) (fun i _ => 1 - (intOf i).toNat)
   case atStart => exact ⟨rfl, rfl⟩
   case round =>
    obtain ⟨rfl, rfl⟩ := hrel
    gi_wp2
    simp only [Exit.noGoto_normal]
    go_end0
    refine ⟨⟨_, rfl⟩, ?_⟩
    rw [he.out]
    exact h0
 obtain ⟨N, rfl⟩ : ∃ N : Nat, n = N := ⟨n.toNat, by omega⟩
 have hN : N ≤ 16 := by omega
 obtain ⟨xs, hxs⟩ : ∃ xs, pairsL N = xs := ⟨_, rfl⟩
 have hxs' : Hid (xs = fromL N 0) := Lib.hid (by rw [← hxs, pairsL_in hN])
 rw [hxs] at hY' ⊢
 clear hxs
 gi_wp2_with fail
 apply wpIn_label
 gi_wp2
 gi_loopw [3] (fun i wr => ∃ (pre : List (Int × Int)) (k : Nat), i = .int .i64 k ∧ k ≤ N + 1 ∧ Hid (xs = pre ++ fromL N k) ∧ Hid (∀ y ∈ pre, good y = true) ∧ J pre wr ∧ B ≤ wr.heap.size)
  (fun i _ => N + 1 - (intOf i).toNat)
 case atStart => exact ⟨[], 0, rfl, Nat.zero_le _, hxs', Lib.hid (fun y hy => by cases hy), h0, hWs⟩
 case round =>
  obtain ⟨pre, k, rfl, hk, hx, hg, hj, hs⟩ := hrel
  clear h0
  have hAr := hI'.out _ _ (hJI _ _ hj)
  have n0 := hAr.cell 0
  have hbr := hAr.inside
  simp at n0
  clear hAr
  by_cases hlt : k ≤ N
  · have hx2 : Hid (xs = pre ++ (rowL N k k ++ fromL N (k + 1))) := Lib.hid (by rw [hx.out, fromL_cons hlt])
    clear hx
    obtain ⟨wo, hwo⟩ : ∃ wo, wo = wr := ⟨_, rfl⟩
    subst hwo
    have hkNi : (k : Int) ≤ (N : Int) := by omega
    gi_wp2
    gi_loopw [4] (fun j wr => ∃ (pre : List (Int × Int)) (m : Nat), j = .int .i64 m ∧ m ≤ N + 1 ∧ Hid (xs = pre ++ (rowL N k m ++ fromL N (k + 1))) ∧ Hid (∀ y ∈ pre, good y = true) ∧ J pre wr ∧ B ≤ wr.heap.size)
     (fun j _ => N + 1 - (intOf j).toNat)
    case atStart => exact ⟨pre, k, rfl, by omega, hx2, hg, hj, hs⟩
    case round =>
     clear hj hx2 hg hs n0 hbr pre
     obtain ⟨pre, m, rfl, hm, hx, hg, hj, hs⟩ := hrel
     have hAr := hI'.out _ _ (hJI _ _ hj)
     have n0 := hAr.cell 0
     have hbr := hAr.inside
     simp at n0
     clear hAr
     by_cases hlm : m ≤ N
     · have hx2 : Hid (xs = pre ++ (((k : Int), (m : Int)) :: (rowL N k (m + 1) ++ fromL N (k + 1)))) := Lib.hid (by rw [hx.out, rowL_cons hlm]; rfl)
       obtain ⟨fn, tmps, assign, body, hyy, hR⟩ := hY'.out 1 pre ((k : Int), (m : Int)) wr ⟨_, hx2.out⟩ hj hg.out hs
       dsimp only [encP] at hyy
       have hlmi : (m : Int) ≤ (N : Int) := by omega
       clear hx hj
       gi_wp2_with fail
       refine hR.mono ?_
       clear hR hyy
       rintro e w4 ⟨rfl, hj4, hk4⟩
       have hs4 : B ≤ w4.heap.size := Nat.le_trans hs hk4
       clear hk4
       cases hgood : good ((k : Int), (m : Int))
       · gi_wp2
         simp only [Exit.noGoto_normal]
         go_end0
         refine ⟨⟨_, rfl⟩, ?_⟩
         rw [hx2.out, upTo_append hg.out, upTo_bad hgood]
         exact hj4
       · have hgg := Lib.hid (good_snoc hg.out hgood)
         clear hgood
         gi_wp2
         go_roundw
         case rel => exact ⟨pre ++ [((k : Int), (m : Int))], m + 1, by go_num, by omega, Lib.hid (by rw [hx2.out, List.append_assoc]; rfl), hgg, hj4, hs4⟩
         case measure => simp [intOf]; omega
     · obtain rfl : m = N + 1 := by omega
       have hx2 : Hid (xs = pre ++ fromL N (k + 1)) := Lib.hid (by rw [hx.out, rowL_nil (Nat.lt_succ_self _)]; rfl)
       clear hx
       gi_wp2
       go_roundw
       case rel => exact ⟨pre, k + 1, by go_num, by omega, hx2, hg, hj, hs⟩
       case measure => simp [intOf]; omega
  · obtain rfl : k = N + 1 := by omega
    have hx2 : Hid (xs = pre) := Lib.hid (by rw [hx.out, fromL_nil (Nat.lt_succ_self _), List.append_nil])
    clear hx
    gi_wp2
    simp only [Exit.noGoto_normal]
    go_end0
    refine ⟨⟨_, rfl⟩, ?_⟩
    rw [hx2.out, upTo_all hg.out]
    exact hj
end Go.Proofs.YteclpblfleakhaaDoor.Ins
namespace Go.Proofs.YteclpblfleakhaaDoor.Cheap
open Go.RowKit Go.Proofs.YteclpblfleakhaaDoor.Order Go.Proofs.YteclpblfleakhaaDoor.Place Go.Proofs.YteclpblfleakhaaDoor.Route Go.Proofs.YteclpblfleakhaaDoor.When Go.Proofs.YteclpblfleakhaaDoor.Load Go.Proofs.YteclpblfleakhaaDoor.Ins
set_option linter.unusedVariables false
structure Wy where
 (i j n : Int)
deriving DecidableEq
def encW (y : Wy) : Array Value := #[.int .i64 y.i, .int .i64 y.j, .int .i64 y.n]
def noW : Wy := ⟨-1, -1, 9223372036854775807⟩
def wayI (v : Vh) (l : List (Int × Int)) (t : List Rq) (r : Int) (y : Int × Int) : Option Wy := if riseE v l t r y.1 y.2 = 0 then some ⟨y.1, y.2, riseV v l t r y.1 y.2⟩ else none
def waysP (v : Vh) (l : List (Int × Int)) (t : List Rq) (r : Int) (ps : List (Int × Int)) : List Wy := ps.filterMap (wayI v l t r)
theorem waysP_snoc (v : Vh) (l : List (Int × Int)) (t : List Rq) (r : Int) (ps : List (Int × Int)) (y : Int × Int) : waysP v l t r (ps ++ [y]) = waysP v l t r ps ++ (wayI v l t r y).toList := by
 unfold waysP
 rw [List.filterMap_append]
 cases h : wayI v l t r y <;> simp [h]
theorem wayI_no {v : Vh} {l : List (Int × Int)} {t : List Rq} {r : Int} {y : Int × Int} (h : riseE v l t r y.1 y.2 ≠ 0) : wayI v l t r y = none := by unfold wayI; rw [if_neg h]
theorem wayI_yes {v : Vh} {l : List (Int × Int)} {t : List Rq} {r : Int} {y : Int × Int} (h : riseE v l t r y.1 y.2 = 0) : wayI v l t r y = some ⟨y.1, y.2, riseV v l t r y.1 y.2⟩ := by unfold wayI; rw [if_pos h]
def headE (v : Vh) (l : List (Int × Int)) (t : List Rq) (r : Int) : Int := if riseE v l t r 0 0 = 0 ∨ riseE v l t r 0 0 = 9 ∨ riseE v l t r 0 0 = 10 then 0 else riseE v l t r 0 0
def lessW (a b : Wy) : Wy := if b.n < a.n then b else a
def leastW (ws : List Wy) : Wy := ws.foldl lessW noW
theorem leastW_snoc (ws : List Wy) (y : Wy) : leastW (ws ++ [y]) = lessW (leastW ws) y := by simp [leastW]
theorem riseV_bd (v : Vh) (l : List (Int × Int)) (t : List Rq) (r i j : Int) : -3000000 ≤ riseV v l t r i j ∧ riseV v l t r i j ≤ 3000000 := by
 unfold riseV
 split
 · have h1 := homeT_bd v (moreL l r i j) t
   have h2 := homeT_bd v l t
   omega
 · omega
theorem waysP_mem {v : Vh} {l : List (Int × Int)} {t : List Rq} {r : Int} {ps : List (Int × Int)} {y : Wy} (h : y ∈ waysP v l t r ps) : (y.i, y.j) ∈ ps ∧ riseE v l t r y.i y.j = 0 ∧ y.n = riseV v l t r y.i y.j := by
 unfold waysP at h
 obtain ⟨p, hp, he⟩ := List.mem_filterMap.1 h
 unfold wayI at he
 split at he
 · cases he; exact ⟨hp, by assumption, rfl⟩
 · cases he
theorem least_of : ∀ (ws : List Wy) (a : Wy), (ws.foldl lessW a = a ∧ ∀ y ∈ ws, a.n ≤ y.n) ∨ ∃ p b q, ws = p ++ b :: q ∧ ws.foldl lessW a = b ∧ b.n < a.n ∧ (∀ y ∈ p, b.n < y.n) ∧ ∀ y ∈ q, b.n ≤ y.n
 | [], a => .inl ⟨rfl, fun y h => absurd h (by simp)⟩
 | w :: ws, a => by
  have ih := least_of ws (lessW a w)
  show ((ws.foldl lessW (lessW a w) = a ∧ _) ∨ ∃ p b q, _ ∧ ws.foldl lessW (lessW a w) = b ∧ _)
  by_cases hl : w.n < a.n
  · have e : lessW a w = w := by unfold lessW; rw [if_pos hl]
    rw [e] at ih ⊢
    right
    rcases ih with ⟨h1, h2⟩ | ⟨p, b, q, h1, h2, h3, h4, h5⟩
    · exact ⟨[], w, ws, rfl, h1, hl, fun y h => absurd h (by simp), h2⟩
    · refine ⟨w :: p, b, q, by rw [h1]; rfl, h2, by omega, ?_, h5⟩
      intro y hy
      rcases List.mem_cons.1 hy with rfl | hy
      · exact h3
      · exact h4 y hy
  · have e : lessW a w = a := by unfold lessW; rw [if_neg hl]
    rw [e] at ih ⊢
    rcases ih with ⟨h1, h2⟩ | ⟨p, b, q, h1, h2, h3, h4, h5⟩
    · left
      refine ⟨h1, ?_⟩
      intro y hy
      rcases List.mem_cons.1 hy with rfl | hy
      · omega
      · exact h2 y hy
    · right
      refine ⟨w :: p, b, q, by rw [h1]; rfl, h2, h3, ?_, h5⟩
      intro y hy
      rcases List.mem_cons.1 hy with rfl | hy
      · omega
      · exact h4 y hy
def Small (ws : List Wy) : Prop := ∀ y ∈ ws, y.n < 9223372036854775807
theorem least_none {ws : List Wy} (h : Small ws) : leastW ws = noW ↔ ws = [] := by
 constructor
 · intro e
   cases ws with
   | nil => rfl
   | cons w ws =>
    exfalso
    rcases least_of (w :: ws) noW with ⟨-, h2⟩ | ⟨p, b, q, h1, h2, h3, -, -⟩
    · have := h2 w (by simp)
      have := h w (by simp)
      simp only [noW] at *
      omega
    · unfold leastW at e
      rw [h2] at e
      rw [e] at h3
      omega
 · rintro rfl; rfl
theorem least_some {ws : List Wy} (h : Small ws) (hn : ws ≠ []) : ∃ p b q, ws = p ++ b :: q ∧ leastW ws = b ∧ (∀ y ∈ p, b.n < y.n) ∧ ∀ y ∈ q, b.n ≤ y.n := by
 rcases least_of ws noW with ⟨h1, -⟩ | ⟨p, b, q, h1, h2, h3, h4, h5⟩
 · exact absurd ((least_none h).1 h1) hn
 · exact ⟨p, b, q, h1, h2, h4, h5⟩
theorem least_head {w : Wy} {ws : List Wy} (h : w.n < 9223372036854775807) : leastW (w :: ws) = ws.foldl lessW w := by
 unfold leastW
 rw [List.foldl_cons]
 congr 1
 unfold lessW noW
 rw [if_pos h]
theorem ways_small (v : Vh) (l : List (Int × Int)) (t : List Rq) (r : Int) (ps : List (Int × Int)) : Small (waysP v l t r ps) := by
 intro y hy
 have h1 := (waysP_mem hy).2.2
 have h2 := riseV_bd v l t r y.i y.j
 omega
def eachL (v : Vh) (l : List (Int × Int)) (t : List Rq) (r : Int) : List Wy := if headE v l t r = 0 then waysP v l t r (pairsL l.length) else []
def bestE (v : Vh) (l : List (Int × Int)) (t : List Rq) (r : Int) : Int := if headE v l t r ≠ 0 then headE v l t r else if eachL v l t r = [] then 12 else 0
def bestW (v : Vh) (l : List (Int × Int)) (t : List Rq) (r : Int) : Wy := if bestE v l t r = 0 then leastW (eachL v l t r) else ⟨0, 0, 0⟩
theorem each_small (v : Vh) (l : List (Int × Int)) (t : List Rq) (r : Int) : Small (eachL v l t r) := by
 unfold eachL
 split
 · exact ways_small _ _ _ _ _
 · intro y h; cases h
theorem bestE_head {v : Vh} {l : List (Int × Int)} {t : List Rq} {r : Int} (h : headE v l t r ≠ 0) : bestE v l t r = headE v l t r := by unfold bestE; rw [if_pos h]
theorem bestE_none {v : Vh} {l : List (Int × Int)} {t : List Rq} {r : Int} (h : headE v l t r = 0) (h2 : eachL v l t r = []) : bestE v l t r = 12 := by unfold bestE; rw [if_neg (by omega), if_pos h2]
theorem bestE_ok {v : Vh} {l : List (Int × Int)} {t : List Rq} {r : Int} (h : headE v l t r = 0) (h2 : eachL v l t r ≠ []) : bestE v l t r = 0 := by unfold bestE; rw [if_neg (by omega), if_neg h2]
theorem bestE_zero {v : Vh} {l : List (Int × Int)} {t : List Rq} {r : Int} (h : bestE v l t r = 0) : headE v l t r = 0 ∧ eachL v l t r ≠ [] := by
 unfold bestE at h
 split at h
 · omega
 split at h
 · omega
 · exact ⟨by omega, by assumption⟩
theorem bestW_no {v : Vh} {l : List (Int × Int)} {t : List Rq} {r : Int} (h : bestE v l t r ≠ 0) : bestW v l t r = ⟨0, 0, 0⟩ := by unfold bestW; rw [if_neg h]
theorem bestW_ok {v : Vh} {l : List (Int × Int)} {t : List Rq} {r : Int} (h : bestE v l t r = 0) : bestW v l t r = leastW (eachL v l t r) := by unfold bestW; rw [if_pos h]
theorem best_in {v : Vh} {l : List (Int × Int)} {t : List Rq} {r : Int} (h : bestE v l t r = 0) : riseE v l t r (bestW v l t r).i (bestW v l t r).j = 0 ∧ (bestW v l t r).n = riseV v l t r (bestW v l t r).i (bestW v l t r).j := by
 have hz := bestE_zero h
 obtain ⟨p, b, q, h1, h2, -, -⟩ := least_some (each_small v l t r) hz.2
 rw [bestW_ok h, h2]
 have hm : b ∈ eachL v l t r := by rw [h1]; simp
 unfold eachL at hm
 rw [if_pos hz.1] at hm
 exact (waysP_mem hm).2
def reqC (t : List Rq) (r : Int) : Int := ((t[r.toNat]?).map fun q => q.chk).getD 1
def rightE (v : Vh) (l : List (Int × Int)) (t : List Rq) (r : Int) : Int :=
 if (inT t r && noR r l) = false then 8 else if reqC t r ≠ 0 ∨ v.chk ≠ 0 then 2 else if errT v l t = 9 then 0 else if errT v l t ≠ 0 then errT v l t else if 14 < l.length then 11 else 0
theorem reqC_at {t : List Rq} {r : Nat} {q : Rq} (h : t[r]? = some q) : reqC t r = q.chk := by unfold reqC; rw [Int.toNat_natCast, h]; rfl
theorem rightE_req {v : Vh} {l : List (Int × Int)} {t : List Rq} {r : Int} (h : (inT t r && noR r l) = false) : rightE v l t r = 8 := by unfold rightE; rw [if_pos h]
theorem rightE_count {v : Vh} {l : List (Int × Int)} {t : List Rq} {r : Int} (h : (inT t r && noR r l) = true) (h2 : reqC t r = 0) (h3 : v.chk = 0) (h5 : errT v l t = 0) (h6 : 14 < l.length) : rightE v l t r = 11 := by unfold rightE; rw [if_neg (by simp [h]), if_neg (by omega), if_neg (by omega), if_neg (by omega), if_pos h6]
theorem rightE_ok {v : Vh} {l : List (Int × Int)} {t : List Rq} {r : Int} (h : (inT t r && noR r l) = true) (h2 : reqC t r = 0) (h3 : v.chk = 0) (h5 : errT v l t = 0) (h6 : ¬ 14 < l.length) : rightE v l t r = 0 := by unfold rightE; rw [if_neg (by simp [h]), if_neg (by omega), if_neg (by omega), if_neg (by omega), if_neg h6]
end Go.Proofs.YteclpblfleakhaaDoor.Cheap

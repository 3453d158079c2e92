/-
  Package scene's claim: a request is given to whoever has it first.
-/
import Derived.Test.YtlkijbakfoabaaaDoorSceneMap
namespace Go.Proofs.YtlkijbakfoabaaaDoor.Scene
open Go.RowKit Go.Proofs.YtlkijbakfoabaaaDoor.Mem
set_option linter.unusedVariables false

theorem clm_no {f : Int → Option Int} {N r : Int} (h : Order.btwB r 0 (N - 1) = false) : 12 = clmV f N r := by simp [clmV, h]
theorem clm_twice {f : Int → Option Int} {N r : Int} (h : Order.btwB r 0 (N - 1) = true) (hs : (f r).isSome = true) : 13 = clmV f N r := by simp [clmV, h, hs]
theorem clm_yes {f : Int → Option Int} {N r : Int} (h : Order.btwB r 0 (N - 1) = true) (hs : (f r).isSome = false) : 0 = clmV f N r := by simp [clmV, h, hs]
theorem clmF_no {f : Int → Option Int} {N r c : Int} (h : Order.btwB r 0 (N - 1) = false) : clmF f N r c = f := by simp [clmF, h]
theorem clmF_twice {f : Int → Option Int} {N r c : Int} (hs : (f r).isSome = true) : clmF f N r c = f := by simp [clmF, hs]
theorem clmF_yes {f : Int → Option Int} {N r c : Int} (h : Order.btwB r 0 (N - 1) = true) (hs : (f r).isSome = false) : clmF f N r c = fun q => if q = r then some c else f q := by simp [clmF, h, hs]
theorem ofV_none {f : Int → Option Int} {r : Int} (hs : (f r).isSome = false) : ofV f r = -1 := by
  unfold ofV
  cases h : f r with
  | none => rfl
  | some c => rw [h] at hs; cases hs

set_option maxHeartbeats 1000000 in
theorem claim_any (w : World) (b n : Nat) (f : Int → Option Int) (x : Option Addr) (N cap : Nat) (v1 v2 v3 v4 v5 v6 : Value) (r c : Int) (hr : I64 r) (hc : I64 c) (hN : N ≤ 9223372036854775807) (hn : n < 4294967296)
    (hf : ∀ q d, f q = some d → 0 ≤ d) (h : MapAt w b n f) :
    Calls Tryd.prog 29 #[.agg #[.slice x N cap, v1, v2, v3, v4, v5, v6], .map (some b), .int .i64 r, .int .i64 c] w fun e w' =>
      e = .returned (.int .i64 (clmV f N r)) ∧ MapAt w' b (n + 1) (clmF f N r c) ∧ Turned b w w' := by
  have hkey := key_lit hr
  have hT : Turned b w (w.alloc (.cells #[.slice x N cap, v1, v2, v3, v4, v5, v6] 77)) := .of_below ((Below.refl _ _).alloc (Nat.le_refl _) _)
  have hM := h.alloc (.cells #[.slice x N cap, v1, v2, v3, v4, v5, v6] 77)
  have hwr : IntKind.i64.wrap ((N : Int) - 1) = (N : Int) - 1 := IntWalk.i64_in _ (by omega)
  cases hb : Order.btwB r 0 ((N : Int) - 1)
  · have hE := Lib.hid (clm_no (f := f) hb)
    have hG := Lib.hid (clmF_no (f := f) (c := c) hb)
    go_enter Tryd.func29, Tryd.ntmps29
    go_wp2_with (go_at_call 41; refine (within_any _ _ _ _).mono ?_; rintro e w' ⟨rfl, rfl⟩; rw [hb])
    go_ret
    exact ⟨ret_int hE.out, by rw [hG.out]; exact hM.more (Nat.le_succ _), hT⟩
  · cases hs : (f r).isSome
    · have hE := Lib.hid (clm_yes hb hs)
      have hG := Lib.hid (clmF_yes (c := c) hb hs)
      have ho := ofV_none hs
      go_enter Tryd.func29, Tryd.ntmps29
      go_wp2_with fail
      refine (within_any _ _ _ _).mono ?_
      rintro e w' ⟨rfl, rfl⟩
      rw [hb]
      go_wp2_with fail
      refine (of_any _ b n f r hr hM).mono ?_
      rintro e w' ⟨rfl, rfl⟩
      rw [ho]
      obtain ⟨D, hown, hD⟩ := hM
      clear ho h hs hwr
      have hD' := Lib.hid hD
      have hf' := Lib.hid hf
      clear hD hf
      go_wp2_with (at_mapUpdate; refine wpList_mapUpdate_own _ rfl _ _ _ 85 rfl 3 3 (Maps.int_keyed Tryd.underlying3) Tryd.underlying85 _ b n D rfl hown (by unfold maxLen; omega) _ _ _ rfl rfl hkey _ [] (plainElem_int Tryd.underlying3 hc.wf) ?_; intro w1 hown1 hgrow1)
      go_ret
      refine ⟨ret_int hE.out, ?_, hT.trans (.grown hgrow1 (fun k e => by cases e; rfl))⟩
      rw [hG.out]
      exact ⟨_, hown1, put_tells hown.isMap hD'.out trivial⟩
    · have hE := Lib.hid (clm_twice hb hs)
      have hG := Lib.hid (clmF_twice (N := N) (c := c) hs)
      obtain ⟨d, hd⟩ := Option.isSome_iff_exists.1 hs
      have hd0 := hf r d hd
      have ho : ofV f r = d := by unfold ofV; rw [hd]; rfl
      have t1 : ((d : Int) == -1) = false := by simp; omega
      have t2 : ((d : Int) != -1) = true := by simp; omega
      have hf' := Lib.hid hf
      clear hf hd hs
      go_enter Tryd.func29, Tryd.ntmps29
      go_wp2_with fail
      refine (within_any _ _ _ _).mono ?_
      rintro e w' ⟨rfl, rfl⟩
      rw [hb]
      go_wp2_with fail
      refine (of_any _ b n f r hr hM).mono ?_
      rintro e w' ⟨rfl, rfl⟩
      rw [ho]
      go_wp2
      go_ret
      exact ⟨ret_int hE.out, by rw [hG.out]; exact hM.more (Nat.le_succ _), hT⟩

theorem clmV_mapP (N : Int) (ps : List (Int × Int)) (r : Int) : clmV (mapP N ps) N r = clmC N ps r := by
  unfold clmV clmC
  rw [mapP_isSome]
  cases h : Order.btwB r 0 (N - 1) <;> simp
theorem clmF_mapP (N : Int) (ps : List (Int × Int)) (r c : Int) : clmF (mapP N ps) N r c = mapP N (ps ++ [(r, c)]) := by
  funext q
  unfold clmF
  rw [mapP_isSome]
  unfold mapP
  cases h : Order.btwB r 0 (N - 1)
  · simp only [Bool.false_and, Bool.false_eq_true, if_false]
    by_cases hq : Order.btwB q 0 (N - 1) = true
    · rw [if_pos hq, if_pos hq, whoP_ne (fun e => by subst e; rw [h] at hq; cases hq)]
    · rw [if_neg hq, if_neg hq]
  · cases hi : inP r ps
    · simp only [Bool.true_and, Bool.not_false, if_true]
      by_cases hqr : q = r
      · subst hqr
        rw [if_pos rfl, if_pos h, whoP_new hi]
      · rw [if_neg hqr, whoP_ne (fun e => hqr e.symm)]
    · simp only [Bool.true_and, Bool.not_true, Bool.false_eq_true, if_false]
      by_cases hqr : q = r
      · subst hqr
        rw [whoP_in hi]
      · rw [whoP_ne (fun e => hqr e.symm)]

theorem claim_p (w : World) (b n : Nat) (ps : List (Int × Int)) (x : Option Addr) (N cap : Nat) (v1 v2 v3 v4 v5 v6 : Value) (r c : Int) (hr : I64 r) (hc : I64 c) (hN : N ≤ 9223372036854775807) (hn : n < 4294967296)
    (hps : ∀ p ∈ ps, 0 ≤ p.2) (h : MapAt w b n (mapP N ps)) :
    Calls Tryd.prog 29 #[.agg #[.slice x N cap, v1, v2, v3, v4, v5, v6], .map (some b), .int .i64 r, .int .i64 c] w fun e w' =>
      e = .returned (.int .i64 (clmC N ps r)) ∧ MapAt w' b (n + 1) (mapP N (ps ++ [(r, c)])) ∧ Turned b w w' := by
  rw [← clmV_mapP, ← clmF_mapP]
  exact claim_any w b n _ x N cap v1 v2 v3 v4 v5 v6 r c hr hc hN hn (mapP_pos hps) h
theorem pos_snoc {ps : List (Int × Int)} (h : ∀ p ∈ ps, 0 ≤ p.2) (r : Int) {c : Int} (hc : 0 ≤ c) : ∀ p ∈ ps ++ [(r, c)], 0 ≤ p.2 := by
  intro p hp
  rcases List.mem_append.1 hp with hp | hp
  · exact h p hp
  · obtain rfl := List.mem_singleton.1 hp
    exact hc

theorem clmF_pos {f : Int → Option Int} {N r c : Int} (hf : ∀ q d, f q = some d → 0 ≤ d) (hc : 0 ≤ c) : ∀ q d, clmF f N r c q = some d → 0 ≤ d := by
  intro q d
  unfold clmF
  split
  · dsimp only
    split
    · intro h; cases h; exact hc
    · exact hf q d
  · exact hf q d

end Go.Proofs.YtlkijbakfoabaaaDoor.Scene

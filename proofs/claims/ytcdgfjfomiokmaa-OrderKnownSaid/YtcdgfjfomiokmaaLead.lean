/-
  A region that draws its order, whose first n operations and callees only read (blocks may be laid), and all whose others wait for the last one of these: the first ones are walked once, in the text's order; then come the others, in each order that they may have. Nothing here speaks of a program.
-/
import Derived.Test.YtcdgfjfomiokmaaTail
import Derived.RegionTactic
namespace Go.Proofs.Ytcdgfjfomiokmaa.Lead
open Go.Proofs.Ytcdgfjfomiokmaa.Tail (Fit getD_set least)

/-- The head looks back alone, its guards too; whatever stands in it ahead of its last one is waited for by a later one of it; each other waits for the head's last one, or for one of the others. -/
def okB (l : List Oper) (n m : Nat) : Bool :=
  decide (0 < n) && decide (0 < m) && decide (l.length = n + m) &&
  ((List.range n).all fun j => ((l[j]?).map fun o => ((o.guard.map fun g => decide (g.1 < j)).getD true) && o.after.toList.all fun e => decide (e.on < j)).getD false) &&
  ((List.range (n - 1)).all fun h => (List.range n).any fun k => decide (h < k) && ((l[k]?).map fun o => o.after.toList.any fun e => Region.binds .any e && decide (e.on = h)).getD false) &&
  ((List.range m).all fun t => ((l[n + t]?).map fun o => o.after.toList.any fun e => Region.binds .any e && decide (n ≤ e.on + 1) && decide (e.on < n + m)).getD false)

structure Ok (l : List Oper) (n m : Nat) : Prop where
  pos : 0 < n
  posm : 0 < m
  len : l.length = n + m
  head : ∀ j o, j < n → l[j]? = some o → (∀ g, o.guard = some g → g.1 < j) ∧ ∀ e ∈ o.after, e.on < j
  needed : ∀ h, h + 1 < n → ∃ k o, h < k ∧ k < n ∧ l[k]? = some o ∧ ∃ e ∈ o.after, Region.binds .any e = true ∧ e.on = h
  tail : ∀ t o, n ≤ t → l[t]? = some o → ∃ e ∈ o.after, Region.binds .any e = true ∧ n ≤ e.on + 1 ∧ e.on < n + m

theorem ok_of {l : List Oper} {n m : Nat} (h : okB l n m = true) : Ok l n m := by
  simp only [okB, Bool.and_eq_true, decide_eq_true_eq, List.all_eq_true, List.mem_range] at h
  obtain ⟨⟨⟨⟨⟨h0, h0'⟩, h1⟩, h2⟩, h3⟩, h4⟩ := h
  refine ⟨h0, h0', h1, fun j o hj ho => ?_, fun k hk => ?_, fun t o ht ho => ?_⟩
  · have := h2 j hj
    rw [ho] at this
    simp only [Option.map_some, Option.getD_some, Bool.and_eq_true, List.all_eq_true, decide_eq_true_eq] at this
    exact ⟨fun g hg => by have h1 := this.1; rw [hg] at h1; simpa using h1, fun e he => this.2 e (by simpa using he)⟩
  · have h6 := h3 k (by omega)
    rw [List.any_eq_true] at h6
    obtain ⟨i, hi, h7⟩ := h6
    rw [List.mem_range] at hi
    simp only [Bool.and_eq_true, decide_eq_true_eq] at h7
    obtain ⟨h8, h9⟩ := h7
    cases ho : l[i]? with
    | none => rw [ho] at h9; simp at h9
    | some o =>
      rw [ho] at h9
      simp only [Option.map_some, Option.getD_some, List.any_eq_true, Bool.and_eq_true, decide_eq_true_eq] at h9
      obtain ⟨e, he, hb, hon⟩ := h9
      exact ⟨i, o, h8, hi, ho, e, by simpa using he, hb, hon⟩
  · have hlt : t < l.length := (List.getElem?_eq_some_iff.1 ho).1
    have h6 := h4 (t - n) (by omega)
    rw [show n + (t - n) = t by omega, ho] at h6
    simp only [Option.map_some, Option.getD_some, List.any_eq_true, Bool.and_eq_true, decide_eq_true_eq] at h6
    obtain ⟨e, he, ⟨hb, h7⟩, h8⟩ := h6
    exact ⟨e, by simpa using he, hb, h7, h8⟩

variable {P : Program} {l : List Oper} {n m : Nat} {C : World → Prop}

/-- As long as one of the head has not come up, its last one has not. -/
theorem stuck (hk : Ok l n m) {lh la : Array Bool} (hf : Fit l n lh la) : ∀ (f h : Nat), h < n → n - h ≤ f → la.getD h false = false → la.getD (n - 1) false = false
  | 0, h, hh, hm, _ => by omega
  | f + 1, h, hh, hm, hu => by
    by_cases hn : h + 1 = n
    · rw [show n - 1 = h by omega]; exact hu
    · obtain ⟨k, o, h1, hkl, ho, e, he, hb, hon⟩ := hk.needed h (by omega)
      refine stuck hk hf f k hkl (by omega) ?_
      cases hv : la[k]? with
      | none => simp [Array.getD_eq_getD_getElem?, hv]
      | some b =>
        rw [Array.getD_eq_getD_getElem?, hv]
        cases b
        · rfl
        · have := hf.closed k o hkl hv ho e he hb
          rw [hon, hu] at this
          cases this

theorem qOp_all (hk : Ok l n m) {i : Nat} (hi : i < n) {K : Act → Prop} {a : Act} (h : qOp P (l.take n).toArray C i K a) : qOp P l.toArray C i K a := by
  have e : (l.take n).toArray[i]? = l.toArray[i]? := by simp [hi]
  unfold qOp at h ⊢
  rw [e] at h
  cases ho : l.toArray[i]? with
  | none => rw [ho] at h; exact h
  | some o =>
    rw [ho] at h
    have hg := (hk.head i o hi (by simpa using ho)).1
    have hw : Region.wanted o (yielded (l.take n).toArray a.tmps) = Region.wanted o (yielded l.toArray a.tmps) := by
      unfold Region.wanted
      cases hgo : o.guard with
      | none => rfl
      | some g =>
        have hlt := hg g hgo
        have e2 : (l.take n).toArray[g.1]? = l.toArray[g.1]? := by simp [show g.1 < n by omega]
        have e3 : yielded (l.take n).toArray a.tmps g.1 = yielded l.toArray a.tmps g.1 := by unfold yielded; rw [e2]
        simp only [e3]
    dsimp only at h ⊢
    rw [hw] at h
    exact h

theorem lead_any (hk : Ok l n m) {Qa : Act → Prop} {Q : Exit → Act → World → Prop} (hQ : ∀ a w, C w → Qa a → wpAny P .any l.toArray Q m (Array.replicate n true ++ Array.replicate m false) a w) :
    ∀ (fuel : Nat) (lh la : Array Bool) (a : Act) (w : World), C w → Fit l n lh la → lh.toList.count false = fuel → wpAnyQ P .any (l.take n).toArray C Qa fuel lh a → wpAny P .any l.toArray Q (fuel + m) la a w
  | 0, lh, la, a, w, hw, hf, hc, h => by
    have hall : ∀ j, j < n → la[j]? = some true := by
      intro j hj
      rw [hf.same j hj]
      have hlt : j < lh.size := by rw [hf.size]; exact hj
      rw [Array.getElem?_eq_getElem hlt]
      cases hb : lh[j]
      · exfalso
        have : false ∈ lh.toList := by rw [← hb]; simp
        have := List.count_pos_iff.2 this
        omega
      · rfl
    have hla : la = Array.replicate n true ++ Array.replicate m false := by
      apply Array.ext_getElem?
      intro j
      by_cases h1 : j < n
      · rw [hall j h1, Array.getElem?_append_left (by simpa using h1)]
        simp [h1]
      · rw [Array.getElem?_append_right (by simpa using (by omega : n ≤ j))]
        by_cases h2 : j < l.length
        · have hl := hk.len
          rw [hf.rest j (by omega) h2, Array.getElem?_replicate]
          simp
          omega
        · have hl := hk.len
          rw [Array.getElem?_eq_none (by rw [hf.sizeAll]; omega), Array.getElem?_eq_none (by simp; omega)]
    subst hla
    have := hQ a w hw h.2
    simpa using this
  | fuel + 1, lh, la, a, w, hw, hf, hc, h => by
    have hsome : ∃ j, j < n ∧ lh.getD j true = false := by
      have : false ∈ lh.toList := List.count_pos_iff.1 (by omega)
      obtain ⟨j, hj, hb⟩ := List.getElem_of_mem this
      have hj' : j < lh.size := by simpa using hj
      refine ⟨j, by rw [← hf.size]; exact hj', ?_⟩
      simp only [Array.getElem_toList] at hb
      simp [hj', hb]
    have hgd : ∀ j, j < n → la.getD j true = lh.getD j true := fun j hj => by
      have := hf.same j hj
      rw [Array.getD_eq_getD_getElem?, Array.getD_eq_getD_getElem?, this]
    have hgd' : ∀ j, j < n → la.getD j false = lh.getD j false := fun j hj => by
      have := hf.same j hj
      rw [Array.getD_eq_getD_getElem?, Array.getD_eq_getD_getElem?, this]
    have hboth : ∀ j, j < n → lh.getD j false = lh.getD j true := fun j hj => by
      have hlt : j < lh.size := by rw [hf.size]; exact hj
      simp [hlt]
    obtain ⟨j, hj, hpj, hmin⟩ := least (p := fun j => lh.getD j true) n hsome
    have hready : j ∈ Region.ready .any l.toArray la := by
      rw [mem_ready]
      obtain ⟨o, ho⟩ : ∃ o, l[j]? = some o := ⟨l[j]'(by have := hk.len; have := hk.posm; omega), List.getElem?_eq_getElem (by have := hk.len; have := hk.posm; omega)⟩
      refine ⟨by rw [hgd j hj]; exact hpj, o, by simpa using ho, fun e he _ => ?_⟩
      have h1 := (hk.head j o hj ho).2 e he
      rw [hgd' _ (by omega), hboth _ (by omega)]
      exact hmin _ h1
    have key : (Region.ready .any l.toArray la = [] → Q .normal a w) ∧ ∀ i ∈ Region.ready .any l.toArray la, wpOp P l.toArray Q i (wpAny P .any l.toArray Q (fuel + m) (la.setIfInBounds i true)) a w := by
      refine ⟨fun h0 => (by rw [h0] at hready; cases hready), fun i hi => ?_⟩
      rw [mem_ready] at hi
      obtain ⟨hi0, o, ho, hall⟩ := hi
      have ho' : l[i]? = some o := by simpa using ho
      have hin : i < n := by
        apply Classical.byContradiction
        intro hni
        obtain ⟨e, he, hb, hon, hon2⟩ := hk.tail i o (by omega) ho'
        have h1 := hall e he hb
        by_cases hen : e.on < n
        · have h3 := stuck hk hf n j hj (by omega) (by rw [hgd' j hj, hboth j hj]; exact hpj)
          rw [show n - 1 = e.on by omega, h1] at h3
          cases h3
        · have h2 := hf.rest e.on (by omega) (by have := hk.len; omega)
          rw [Array.getD_eq_getD_getElem?, h2] at h1
          cases h1
      have hih : i ∈ Region.ready .any (l.take n).toArray lh := by
        rw [mem_ready]
        refine ⟨by rw [← hgd i hin]; exact hi0, o, by simp [hin, ho'], fun e he hb => ?_⟩
        have h1 := (hk.head i o hin ho').2 e he
        rw [← hgd' _ (by omega)]
        exact hall e he hb
      refine wpOp_of_qOp hw (fun a' w' hw' hK => ?_) (qOp_all hk hin (h.2 i hih))
      refine lead_any hk hQ fuel _ _ a' w' hw' (hf.set hin (fun o1 ho1 e he hb => by rw [ho'] at ho1; cases ho1; exact hall e he hb)) ?_ hK
      have hlt : i < lh.toList.length := by simpa [hf.size] using hin
      have hfalse : lh.toList[i] = false := by
        have h2 : lh.getD i true = false := by rw [← hgd i hin]; exact hi0
        have hlt' : i < lh.size := by simpa using hlt
        simpa [hlt'] using h2
      rw [Array.toList_setIfInBounds, List.count_set hlt, hfalse, hc]
      simp
    rw [show fuel + 1 + m = (fuel + m) + 1 by omega]
    exact key

open Go.Sort Go.RowKit in
/-- **A region whose head is quiet, callees' contracts ending in 'Below', and all whose others wait for it.** -/
theorem wp_region_below_lead {id : Nat} {Q : Exit → Act → World → Prop} {a : Act} {w : World} (n m : Nat) (hm : P.follows .mixedOrders = true) (hB : Region.lexB .any (l.take n).toArray = true) (hT : okB l n m = true)
    (h : wpQuiet P (l.take n).toArray (fun w' => ∃ p : Regrown, w' = grow (redrawn w p.d) p.os) (fun a' => ∀ w', (∃ p : Regrown, w' = grow (redrawn w p.d) p.os) → wpAny P .any l.toArray Q m (Array.replicate n true ++ Array.replicate m false) a' w') (l.take n) a) : (Code.region id l.toArray true).wp P Q a w := by
  have hk := ok_of hT
  have hl := hk.len
  have hC : (fun w' => ∃ p : Regrown, w' = grow (redrawn w p.d) p.os) { w with drawn := w.drawn + 1 } := ⟨⟨w.drawn + 1, #[]⟩, by rw [grow_empty]; rfl⟩
  simp only [Region.lexB, Bool.and_eq_true] at hB
  have hlen : (l.take n).length = n := by simp; omega
  have h1 := wpAnyQ_lex (P := P) (C := fun w' => ∃ p : Regrown, w' = grow (redrawn w p.d) p.os) (md := .any) (ops := (l.take n).toArray) hB.1 (l.take n) 0 (Array.replicate n false) a (by simp) (by simpa [hlen] using hB.2) h
  refine wp_region_any hm ?_
  have h2 := lead_any (P := P) (Q := Q) (C := fun w' => ∃ p : Regrown, w' = grow (redrawn w p.d) p.os) hk (Qa := fun a' => ∀ w', (∃ p : Regrown, w' = grow (redrawn w p.d) p.os) → wpAny P .any l.toArray Q m (Array.replicate n true ++ Array.replicate m false) a' w') (fun a w hw h => h w hw) (l.take n).length (Array.replicate n false) (Array.replicate l.length false) a { w with drawn := w.drawn + 1 } hC
    ⟨by simp, by simp, fun j hj => by rw [Array.getElem?_replicate, Array.getElem?_replicate, if_pos hj, if_pos (by omega)], fun j h1 h2 => by simp [h2], fun j o hj ht => by rw [Array.getElem?_replicate] at ht; split at ht <;> cases ht⟩ (by simp [hlen]) h1
  rw [hlen, ← hl] at h2
  simpa using h2

end Go.Proofs.Ytcdgfjfomiokmaa.Lead

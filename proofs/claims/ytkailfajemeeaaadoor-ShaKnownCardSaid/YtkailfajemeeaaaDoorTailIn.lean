/-
  A region that draws its order, whose head only reads, and whose forced tail hands out to a round: the law of XTail inside the wide fence. Nothing here speaks of a program.
-/
import Derived.Test.YtkailfajemeeaaaDoorTail
import Derived.OrdersIn
import Derived.TacticsIn
import Derived.Sort.QuietThIn
namespace Go.Proofs.YtkailfajemeeaaaDoor.Tail
set_option linter.unusedVariables false

theorem wpAnyIn_of_seq {F : Fence} {m : Nat} {P : Program} {md : Region.Mode} {ops : Array Oper} {Q' : Exit → Act → World → Prop} : ∀ (l : List Oper) (k : Nat) (listed : Array Bool) (a : Act) (w : World), (∀ j, l[j]? = ops[k + j]?) →
    Region.seqB md ops l.length k listed = true → wpListIn F m P ops Q' l a w → wpAnyIn F m P md ops Q' l.length listed a w
  | [], _, _, _, _, _, hB, h => ⟨by simpa [Region.seqB] using hB, h⟩
  | o :: l, k, listed, a, w, hl, hB, h => by
    have h0 : ops[k]? = some o := by simpa using (hl 0).symm
    simp only [List.length_cons, Region.seqB, Bool.and_eq_true, decide_eq_true_eq] at hB
    refine ⟨fun h1 => (by rw [hB.1] at h1; cases h1), fun i hi => ?_⟩
    rw [hB.1] at hi
    have hik : i = k := by simpa using hi
    subst hik
    have hw : wpOpIn F m P ops Q' i (wpListIn F m P ops Q' l) a w := by unfold wpOpIn; simp only [h0]; exact h
    exact wpOpIn_mono (fun a' w' h' => wpAnyIn_of_seq l (i + 1) _ a' w' (fun j => by have := hl (j + 1); simpa [Nat.add_assoc, Nat.add_comm 1 j] using this) hB.2 h') hw

theorem wpInW_of_quiet {m : Nat} {P : Program} {C : World → Prop} {o : Oper} {a : Act} {K : Act → Prop} {K' : Act → World → Prop} {Q' : Exit → Act → World → Prop} {w : World} (hw : C w) (h : ∀ a w', C w' → K a → K' a w') (hh : o.quiet P a C K) : o.wpIn Fence.wide m P a w K' Q' := by
  obtain ⟨v, h1, h2⟩ := hh
  have h3 := h1 w hw
  unfold Oper.quietAt at h3
  unfold Oper.wpIn
  refine ⟨fun _ _ => trivial, ?_⟩
  show o.uponIn Fence.wide m P a K' Q' ((execOp a.eval o).run P w)
  generalize (execOp a.eval o).run P w = r at *
  cases r with
  | ok x w' =>
    cases x <;> simp only [Oper.quietUpon] at h3 <;> simp only [Oper.uponIn]
    case value u =>
      obtain ⟨e1, e2⟩ := h3
      rw [e1, e2]
      exact h _ _ hw h2
    case skip =>
      obtain ⟨e1, e2⟩ := h3
      rw [e1, ← e2]
      exact h _ _ hw h2
    case enter f args =>
      obtain ⟨e1, hc⟩ := h3
      rw [e1]
      exact ⟨fun e => (by cases e), callsIn_wide.2 (hc.mono fun e w'' ⟨he, hw''⟩ => by subst he; exact h _ _ hw'' h2)⟩
  | halt x w' => simp only [Oper.quietUpon] at h3

theorem wpOpIn_of_qOp {m : Nat} {P : Program} {ops : Array Oper} {C : World → Prop} {i : Nat} {a : Act} {K : Act → Prop} {K' : Act → World → Prop} {Q' : Exit → Act → World → Prop} {w : World} (hC : C w) (h : ∀ a w', C w' → K a → K' a w') (hh : qOp P ops C i K a) : wpOpIn Fence.wide m P ops Q' i K' a w := by
  unfold qOp at hh
  unfold wpOpIn
  split
  · rename_i ho; simp only [ho] at hh; exact h _ _ hC hh
  · rename_i o ho
    simp only [ho] at hh
    split
    · rename_i hw; simp only [hw, if_true] at hh; exact wpInW_of_quiet hC h hh
    · rename_i hw; simp only [hw] at hh; exact ⟨fun _ _ => trivial, h _ _ hC hh⟩

variable {P : Program} {l : List Oper} {n m : Nat} {C : World → Prop}
theorem tailIn_any (hk : Ok l n) {Qa : Act → Prop} {Q : Exit → Act → World → Prop} (hQ : ∀ a w, C w → Qa a → wpListIn Fence.wide m P l.toArray Q (l.drop n) a w) :
    ∀ (fuel : Nat) (lh la : Array Bool) (a : Act) (w : World), C w → Fit l n lh la → lh.toList.count false = fuel → wpAnyQ P .any (l.take n).toArray C Qa fuel lh a → wpAnyIn Fence.wide m P .any l.toArray Q (fuel + (l.length - n)) la a w
  | 0, lh, la, a, w, hw, hf, hc, h => by
    have hall : ∀ j, j < n → la[j]? = some true := by
      intro j hj
      rw [hf.same j hj]
      have hlt : j < lh.size := by rw [hf.size]; exact hj
      rw [Array.getElem?_eq_getElem hlt]
      cases hb : lh[j]
      · exfalso
        have : false ∈ lh.toList := by rw [← hb]; simp
        have := List.count_pos_iff.2 this
        omega
      · rfl
    have hla : la = Array.replicate n true ++ Array.replicate (l.length - n) false := by
      apply Array.ext_getElem?
      intro j
      by_cases h1 : j < n
      · rw [hall j h1, Array.getElem?_append_left (by simpa using h1)]
        simp [h1]
      · rw [Array.getElem?_append_right (by simpa using (by omega : n ≤ j))]
        by_cases h2 : j < l.length
        · rw [hf.rest j (by omega) h2, Array.getElem?_replicate]
          simp
          omega
        · rw [Array.getElem?_eq_none (by rw [hf.sizeAll]; omega), Array.getElem?_eq_none (by simp; omega)]
    subst hla
    have := wpAnyIn_of_seq (F := Fence.wide) (m := m) (P := P) (md := .any) (ops := l.toArray) (Q' := Q) (l.drop n) n (Array.replicate n true ++ Array.replicate (l.length - n) false) a w (fun j => by simp [List.getElem?_drop]) (by simpa using hk.seq) (hQ a w hw h.2)
    simpa using this
  | fuel + 1, lh, la, a, w, hw, hf, hc, h => by
    have hsome : ∃ j, j < n ∧ lh.getD j true = false := by
      have : false ∈ lh.toList := List.count_pos_iff.1 (by omega)
      obtain ⟨j, hj, hb⟩ := List.getElem_of_mem this
      have hj' : j < lh.size := by simpa using hj
      refine ⟨j, by rw [← hf.size]; exact hj', ?_⟩
      simp only [Array.getElem_toList] at hb
      simp [hj', hb]
    have hgd : ∀ j, j < n → la.getD j true = lh.getD j true := fun j hj => by
      have := hf.same j hj
      rw [Array.getD_eq_getD_getElem?, Array.getD_eq_getD_getElem?, this]
    have hgd' : ∀ j, j < n → la.getD j false = lh.getD j false := fun j hj => by
      have := hf.same j hj
      rw [Array.getD_eq_getD_getElem?, Array.getD_eq_getD_getElem?, this]
    have hboth : ∀ j, j < n → lh.getD j false = lh.getD j true := fun j hj => by
      have hlt : j < lh.size := by rw [hf.size]; exact hj
      simp [hlt]
    obtain ⟨j, hj, hpj, hmin⟩ := least (p := fun j => lh.getD j true) n hsome
    have hready : j ∈ Region.ready .any l.toArray la := by
      rw [mem_ready]
      obtain ⟨o, ho⟩ : ∃ o, l[j]? = some o := ⟨l[j]'(by have := hk.lt; omega), List.getElem?_eq_getElem (by have := hk.lt; omega)⟩
      refine ⟨by rw [hgd j hj]; exact hpj, o, by simpa using ho, fun e he _ => ?_⟩
      have h1 := (hk.head j o hj ho).2 e he
      rw [hgd' _ (by omega), hboth _ (by omega)]
      exact hmin _ h1
    have key : (Region.ready .any l.toArray la = [] → Q .normal a w) ∧ ∀ i ∈ Region.ready .any l.toArray la, wpOpIn Fence.wide m P l.toArray Q i (wpAnyIn Fence.wide m P .any l.toArray Q (fuel + (l.length - n)) (la.setIfInBounds i true)) a w := by
      refine ⟨fun h0 => (by rw [h0] at hready; cases hready), fun i hi => ?_⟩
      rw [mem_ready] at hi
      obtain ⟨hi0, o, ho, hall⟩ := hi
      have ho' : l[i]? = some o := by simpa using ho
      have hin : i < n := by
        apply Classical.byContradiction
        intro hni
        by_cases hin0 : i = n
        · subst hin0
          exact stuck hk hf i j hj (by omega) (by rw [hgd j hj]; exact hpj) (mem_ready.2 ⟨hi0, o, ho, hall⟩)
        · obtain ⟨e, he, hb, hon⟩ := hk.tail i o (by omega) ho'
          have h1 := hall e he hb
          have hlt : i < l.length := (List.getElem?_eq_some_iff.1 ho').1
          have h2 := hf.rest e.on (by omega) (by omega)
          rw [Array.getD_eq_getD_getElem?, h2] at h1
          cases h1
      have hih : i ∈ Region.ready .any (l.take n).toArray lh := by
        rw [mem_ready]
        refine ⟨by rw [← hgd i hin]; exact hi0, o, by simp [hin, ho'], fun e he hb => ?_⟩
        have h1 := (hk.head i o hin ho').2 e he
        rw [← hgd' _ (by omega)]
        exact hall e he hb
      refine wpOpIn_of_qOp hw (fun a' w' hw' hK => ?_) (qOp_all hk hin (h.2 i hih))
      refine tailIn_any hk hQ fuel _ _ a' w' hw' (hf.set hin (fun o1 ho1 e he hb => by rw [ho'] at ho1; cases ho1; exact hall e he hb)) ?_ hK
      have hlt : i < lh.toList.length := by simpa [hf.size] using hin
      have hfalse : lh.toList[i] = false := by
        have h2 : lh.getD i true = false := by rw [← hgd i hin]; exact hi0
        have hlt' : i < lh.size := by simpa using hlt
        simpa [hlt'] using h2
      rw [Array.toList_setIfInBounds, List.count_set hlt, hfalse, hc]
      simp
    rw [show fuel + 1 + (l.length - n) = (fuel + (l.length - n)) + 1 by omega]
    exact key

/-- **A region whose head is quiet in a class of worlds, and whose tail is forced, in the wide fence.** -/
theorem wpIn_region_quiet_tail {id : Nat} {Q : Exit → Act → World → Prop} {a : Act} {w : World} (n : Nat) (hm : P.follows .mixedOrders = true) (hB : Region.lexB .any (l.take n).toArray = true) (hT : okB l n = true) (hC : C { w with drawn := w.drawn + 1 })
    (h : wpQuiet P (l.take n).toArray C (fun a' => ∀ w', C w' → wpListIn Fence.wide m P l.toArray Q (l.drop n) a' w') (l.take n) a) : (Code.region id l.toArray true).wpIn Fence.wide m P Q a w := by
  have hk := ok_of hT
  simp only [Region.lexB, Bool.and_eq_true] at hB
  have hlen : (l.take n).length = n := by simp; have := hk.lt; omega
  have h1 := wpAnyQ_lex (P := P) (C := C) (md := .any) (ops := (l.take n).toArray) hB.1 (l.take n) 0 (Array.replicate n false) a (by simp) (by simpa [hlen] using hB.2) h
  refine wpIn_region_any hm ?_
  have h2 := tailIn_any (m := m) (P := P) (Q := Q) hk (Qa := fun a' => ∀ w', C w' → wpListIn Fence.wide m P l.toArray Q (l.drop n) a' w') (fun a w hw h => h w hw) (l.take n).length (Array.replicate n false) (Array.replicate l.length false) a { w with drawn := w.drawn + 1 } hC
    ⟨by simp, by simp, fun j hj => by have := hk.lt; rw [Array.getElem?_replicate, Array.getElem?_replicate, if_pos hj, if_pos (by omega)], fun j h1 h2 => by simp [h2], fun j o hj ht => by rw [Array.getElem?_replicate] at ht; split at ht <;> cases ht⟩ (by simp [hlen]) h1
  rw [hlen, show n + (l.length - n) = l.length by have := hk.lt; omega] at h2
  simpa using h2

open Go.Sort Go.RowKit in
/-- The same, callees' contracts ending in 'Below'. -/
theorem wpIn_region_below_tail {id : Nat} {Q : Exit → Act → World → Prop} {a : Act} {w : World} (n : Nat) (hm : P.follows .mixedOrders = true) (hB : Region.lexB .any (l.take n).toArray = true) (hT : okB l n = true)
    (h : wpQuiet P (l.take n).toArray (fun w' => ∃ p : Regrown, w' = grow (redrawn w p.d) p.os) (fun a' => ∀ w', (∃ p : Regrown, w' = grow (redrawn w p.d) p.os) → wpListIn Fence.wide m P l.toArray Q (l.drop n) a' w') (l.take n) a) : (Code.region id l.toArray true).wpIn Fence.wide m P Q a w :=
  wpIn_region_quiet_tail (C := fun w' => ∃ p : Regrown, w' = grow (redrawn w p.d) p.os) n hm hB hT ⟨⟨w.drawn + 1, #[]⟩, by rw [grow_empty]; rfl⟩ h

end Go.Proofs.YtkailfajemeeaaaDoor.Tail

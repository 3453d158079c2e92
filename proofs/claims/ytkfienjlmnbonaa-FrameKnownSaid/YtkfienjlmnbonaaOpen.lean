/-
  Arguments that are arrays of numbers, opened.
-/
import Derived.Test.YtkfienjlmnbonaaClose
import Derived.Lib.SmallJoins
namespace Go.Proofs.Ytkfienjlmnbonaa.Close
open Go.ChangeShapes Go.WideShapes Go.ChangeAt Go.RowKit

section
variable {H : Type} {enc : TypeId × Value → H} {P : Program} {w : World} {base : Nat} {spare : Nat → Bool} {held : Bool}

/-- An array of n numbers, by value. -/
theorem open_numbers {r : Reach} {b0 : Nat} {t e : TypeId} {n : Nat} {k : IntKind} {v : Value} {d : DataW H} {p : List MemPlace} (ht : P.underlying t = some (.array n e)) (he : P.underlying e = some (.int k))
    (hc : P.cellsOf e = 1) (hct : P.cellsOf t = n) (hv : Value.okWide P w r b0 t v) (h : DataW.Trod enc P w base spare held t v d p) :
    ∃ xs : List Int, xs.length = n ∧ v = .agg (xs.map (Value.int k)).toArray ∧ ∀ x ∈ xs, (Lit.int k x).wf = true := by
  simp only [Value.okWide, ht] at hv
  obtain ⟨cs, rfl, hsz, _⟩ := hv
  obtain ⟨fuel, hf⟩ := h
  obtain ⟨ys, m, _, _, _, hlen, hel⟩ := DataW.trod_array ht hf
  simp only [hc, Nat.mul_one] at hel
  have hcs : (Value.agg cs).cells.toList = cs.toList := rfl
  rw [hct] at hsz
  have hone : ∀ i (hi : i < n), ∃ x : Int, cs.toList[i]? = some (.int k x) ∧ (Lit.int k x).wf = true := by
    intro i hi
    have h1 := hel i hi
    have hi' : i < cs.toList.length := by simpa [hsz] using hi
    have hdrop : (cs.toList.drop i).take 1 = [cs.toList[i]] := by
      rw [List.drop_eq_getElem_cons hi']
      rfl
    rw [show ((Value.agg cs).cells.toList.drop i).take 1 = [cs.toList[i]] from hdrop] at h1
    rw [List.getElem?_eq_getElem (by omega)] at h1
    obtain ⟨x, hx, _, hw⟩ := DataW.trod_int he h1
    refine ⟨x, ?_, hw⟩
    rw [List.getElem?_eq_getElem hi']
    simpa using hx
  have hall : ∀ l : List Value, (∀ v ∈ l, ∃ x : Int, v = .int k x ∧ (Lit.int k x).wf = true) → ∃ xs : List Int, l = xs.map (Value.int k) ∧ ∀ x ∈ xs, (Lit.int k x).wf = true := by
    intro l
    induction l with
    | nil => exact fun _ => ⟨[], rfl, fun x hx => by cases hx⟩
    | cons v l ih =>
      intro hl
      obtain ⟨x, rfl, hw⟩ := hl v (List.mem_cons_self ..)
      obtain ⟨xs, rfl, hws⟩ := ih (fun u hu => hl u (List.mem_cons_of_mem _ hu))
      exact ⟨x :: xs, rfl, fun y hy => by
        rcases List.mem_cons.1 hy with rfl | hy
        · exact hw
        · exact hws y hy⟩
  obtain ⟨xs, hxs, hws⟩ := hall cs.toList (fun v hv => by
    obtain ⟨i, hi, rfl⟩ := List.getElem_of_mem hv
    obtain ⟨x, hx, hw⟩ := hone i (by simpa [hsz] using hi)
    rw [List.getElem?_eq_getElem hi] at hx
    exact ⟨x, Option.some.inj hx, hw⟩)
  refine ⟨xs, ?_, ?_, hws⟩
  · have := congrArg List.length hxs
    simp [hsz] at this
    exact this.symm
  · have : cs = (xs.map (Value.int k)).toArray := by rw [← hxs]
    rw [this]

end
end Go.Proofs.Ytkfienjlmnbonaa.Close

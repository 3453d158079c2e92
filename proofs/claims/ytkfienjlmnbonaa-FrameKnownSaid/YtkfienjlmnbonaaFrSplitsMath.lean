/-
  Frames that are laid one behind the other, in plain words. No program here.
-/
import Derived.Test.YtkfienjlmnbonaaFrMath
namespace Go.Proofs.Ytkfienjlmnbonaa.Fr
open Go.Proofs.Ytkfienjlmnbonaa.Oct
set_option linter.unusedVariables false

/-- A frame's kind, and its body. -/
structure Pt where
  k : Nat
  body : Bs
def Pt.ok (p : Pt) : Prop := p.k < 256
def Pt.cut (p : Pt) : Bs := p.body.take 200
def Pt.fr (p : Pt) : Bs := frL p.k p.cut
def rowF (l : List Pt) : Bs := (l.map Pt.fr).flatten
theorem Pt.cut_len (p : Pt) : p.cut.length ≤ 200 := by unfold Pt.cut; rw [List.length_take]; omega
theorem Pt.fr_len (p : Pt) : p.fr.length = 3 + p.cut.length := frL_length _ _
theorem rowF_cons (p : Pt) (l : List Pt) : rowF (p :: l) = p.fr ++ rowF l := by simp [rowF]
theorem rowF_snoc (l : List Pt) (p : Pt) : rowF (l ++ [p]) = rowF l ++ p.fr := by simp [rowF]
theorem rowF_len : ∀ l : List Pt, (rowF l).length ≤ l.length * 203
  | [] => by simp [rowF]
  | p :: l => by
    have h1 := p.fr_len
    have h2 := p.cut_len
    have h3 := rowF_len l
    rw [rowF_cons, List.length_append, List.length_cons, Nat.succ_mul]
    omega
theorem front_pt {p : Pt} (h : p.ok) (t : Bs) : front (p.fr ++ t) = some ⟨p.k, p.cut, t⟩ := front_lay h (by have := p.cut_len; omega) t
theorem front_rowF {p : Pt} {l : List Pt} (h : p.ok) : front (rowF (p :: l)) = some ⟨p.k, p.cut, rowF l⟩ := by rw [rowF_cons]; exact front_pt h _
theorem run_rowF : ∀ (l : List Pt), (∀ p ∈ l, p.ok) → ∃ fs, Run (rowF l) fs [] ∧ fs.length = l.length
  | [], _ => ⟨[], .stop rfl, rfl⟩
  | p :: l, h => by
    obtain ⟨fs, h1, h2⟩ := run_rowF l fun q hq => h q (List.mem_cons_of_mem _ hq)
    exact ⟨_, .go (front_rowF (h p (List.mem_cons_self ..))) h1, by simp [h2]⟩
/-- But for its last byte there is something left. -/
theorem run_cut : ∀ (l : List Pt), (∀ p ∈ l, p.ok) → l ≠ [] → ∃ fs r, Run ((rowF l).take ((rowF l).length - 1)) fs r ∧ r ≠ []
  | [], _, h => absurd rfl h
  | [p], h, _ => by
    have hl := p.fr_len
    have e : rowF [p] = p.fr := by simp [rowF]
    rw [e]
    refine ⟨[], _, .stop (front_cut (by have := p.cut_len; omega) (by omega)), fun h0 => ?_⟩
    have := congrArg List.length h0
    rw [List.length_take, List.length_nil] at this
    omega
  | p :: q :: l, h, _ => by
    obtain ⟨fs, r, h1, h2⟩ := run_cut (q :: l) (fun x hx => h x (List.mem_cons_of_mem _ hx)) (by simp)
    have hq := q.fr_len
    have h0 : 0 < (rowF (q :: l)).length := by rw [rowF_cons, List.length_append]; omega
    refine ⟨⟨p.k, p.cut, (rowF (q :: l)).take ((rowF (q :: l)).length - 1)⟩ :: fs, r, .go ?_ h1, h2⟩
    have e : (rowF (p :: q :: l)).take ((rowF (p :: q :: l)).length - 1) = p.fr ++ (rowF (q :: l)).take ((rowF (q :: l)).length - 1) := by
      rw [rowF_cons p, List.length_append, List.take_append, List.take_of_length_le (by omega)]
      congr 2
      omega
    rw [e]
    exact front_pt (h p (List.mem_cons_self ..)) _
theorem drop_pt {l : List Pt} {i : Nat} {p : Pt} (h : l[i]? = some p) : l.drop i = p :: l.drop (i + 1) := by
  obtain ⟨hi, rfl⟩ := List.getElem?_eq_some_iff.1 h
  exact List.drop_eq_getElem_cons hi

end Go.Proofs.Ytkfienjlmnbonaa.Fr

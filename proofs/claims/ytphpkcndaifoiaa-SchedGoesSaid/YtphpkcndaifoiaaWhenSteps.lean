/-
  What is so at each stop of a route that is in time. No program is spoken of here.
-/
import Derived.Test.YtphpkcndaifoiaaWhenMild
namespace Go.Proofs.Ytphpkcndaifoiaa.Steps
open Go.RowKit Go.Proofs.Ytphpkcndaifoiaa.Order Go.Proofs.Ytphpkcndaifoiaa.Place Go.Proofs.Ytphpkcndaifoiaa.Window Go.Proofs.Ytphpkcndaifoiaa.Up Go.Proofs.Ytphpkcndaifoiaa.When
set_option linter.unusedVariables false

/-- How far the first k stops bring. -/
def upK (t : List Rq) (l : List (Int × Int)) (k : Nat) : List Vi := visL t (l.take k)
theorem upK_split {t : List Rq} {l : List (Int × Int)} {k : Nat} {s : Int × Int} (h : l[k]? = some s) : visL t l = upK t l k ++ visV t s :: visL t (l.drop (k + 1)) := by
  have hl : l = l.take k ++ s :: l.drop (k + 1) := by
    obtain ⟨hk, rfl⟩ := List.getElem?_eq_some_iff.1 h
    rw [← List.drop_eq_getElem_cons hk, List.take_append_drop]
  conv => lhs; rw [hl]
  unfold visL upK
  rw [List.map_append]
  rfl
theorem upK_snoc {t : List Rq} {l : List (Int × Int)} {k : Nat} {s : Int × Int} (h : l[k]? = some s) : upK t l (k + 1) = upK t l k ++ [visV t s] := by
  unfold upK visL
  rw [show l.take (k + 1) = l.take k ++ [s] by rw [List.take_add_one, h]; rfl, List.map_append]
  rfl
theorem upK_all (t : List Rq) (l : List (Int × Int)) : upK t l l.length = visL t l := by unfold upK; rw [List.take_length]
theorem upK_length {t : List Rq} {l : List (Int × Int)} {k : Nat} (h : k ≤ l.length) : (upK t l k).length = k := by
  unfold upK visL
  rw [List.length_map, List.length_take]
  omega
theorem row_get {v : Vh} {l : List (Int × Int)} {t : List Rq} {k : Nat} {s : Int × Int} (h : l[k]? = some s) : (rowT v l t)[k]? = some (tmV (endA (sp0 v) (upK t l k)) (visV t s)) := by
  have hk := (List.getElem?_eq_some_iff.1 h).1
  unfold rowT
  rw [upK_split h, stepsL_append, stepsL]
  unfold tmsL
  rw [List.map_append, List.getElem?_append_right (by rw [List.length_map, stepsL_length, upK_length (by omega)]; exact Nat.le_refl _), List.length_map, stepsL_length, upK_length (by omega), Nat.sub_self]
  rfl
theorem row_take {v : Vh} {l : List (Int × Int)} {t : List Rq} {k : Nat} (h : k ≤ l.length) : (rowT v l t).take k = tmsL (stepsL (sp0 v) (upK t l k)) := by
  have hs : visL t l = upK t l k ++ visL t (l.drop k) := by
    unfold visL upK visL
    rw [← List.map_append, List.take_append_drop]
  unfold rowT
  rw [hs, stepsL_append]
  unfold tmsL
  rw [List.map_append]
  have hlen : (List.map (fun y => tmV y.1 y.2) (stepsL (sp0 v) (upK t l k))).length = k := by rw [List.length_map, stepsL_length, upK_length h]
  exact List.take_left' hlen
theorem good_at {a : Sp} {l : List (Int × Int)} {t : List Rq} {k : Nat} {s : Int × Int} (h : l[k]? = some s) (hall : allB a (visL t l) = true) : inB (endA a (upK t l k)) (visV t s) = true := by
  unfold allB at hall
  rw [upK_split h, stepsL_append, List.all_append, stepsL, List.all_cons, Bool.and_eq_true, Bool.and_eq_true] at hall
  exact hall.2.1
theorem left_now {v : Vh} {l : List (Int × Int)} {t : List Rq} {k : Nat} (h : k ≤ l.length) : leftS v.st ((rowT v l t).take k) = (endA (sp0 v) (upK t l k)).now := by
  rw [row_take h]
  exact left_end _ (sp0 v)
/-- One visit in time. -/
theorem visit_in {a : Sp} {x : Vi} (h : inB a x = true) : x.we ≤ beV a x ∧ beV a x ≤ x.wl ∧ arV a x ≤ beV a x ∧ beV a x ≤ max (arV a x) x.we := by
  have h2 := (waitB_iff _ _ _).1 h
  unfold beV
  rw [wait_yes h]
  omega
theorem arV_ge (a : Sp) (x : Vi) : a.now ≤ arV a x := by
  have := (distV_bd (a.px, a.py) (x.px, x.py)).1
  unfold arV
  omega

end Go.Proofs.Ytphpkcndaifoiaa.Steps

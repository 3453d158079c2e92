/-
  What windows have together: whichever comes first, of three in whatever order, and a time is in it just if it is in both.
-/
import Derived.Test.YtljpcicahhfkpaaWindowMath
namespace Go.Proofs.Ytljpcicahhfkpaa.Window

theorem bool_ext {p q : Bool} (h : p = true ↔ q = true) : p = q := Bool.eq_iff_iff.2 h

theorem meet_comm (a b c d : Int) : meetB c d a b = meetB a b c d ∧ meetE c d a b = meetE a b c d ∧ meetL c d a b = meetL a b c d := by
  have h1 : meetB c d a b = meetB a b c d := bool_ext (by rw [meetB_iff, meetB_iff]; omega)
  refine ⟨h1, ?_, ?_⟩
  · unfold meetE
    rw [h1, Int.max_comm]
  · unfold meetL
    rw [h1, Int.min_comm]

theorem meet_self {a b : Int} (h : okB a b = true) : meetB a b a b = true ∧ meetE a b a b = a ∧ meetL a b a b = b := by
  have h0 := (okB_iff a b).1 h
  have h1 : meetB a b a b = true := (meetB_iff _ _ _ _).2 ⟨h0, h0, by omega⟩
  refine ⟨h1, ?_, ?_⟩
  · unfold meetE
    rw [h1, orNil_t]
    omega
  · unfold meetL
    rw [h1, orNil_t]
    omega

theorem meetE_t {a b c d : Int} (h : meetB a b c d = true) : meetE a b c d = max a c := by unfold meetE; rw [h, orNil_t]
theorem meetL_t {a b c d : Int} (h : meetB a b c d = true) : meetL a b c d = min b d := by unfold meetL; rw [h, orNil_t]

theorem meet_three (a b c d e f : Int) :
    (meetB a b c d && meetB (meetE a b c d) (meetL a b c d) e f) = (meetB c d e f && meetB a b (meetE c d e f) (meetL c d e f)) ∧
    ((meetB a b c d && meetB (meetE a b c d) (meetL a b c d) e f) = true → meetE (meetE a b c d) (meetL a b c d) e f = meetE a b (meetE c d e f) (meetL c d e f) ∧ meetL (meetE a b c d) (meetL a b c d) e f = meetL a b (meetE c d e f) (meetL c d e f)) := by
  have key : (meetB a b c d && meetB (meetE a b c d) (meetL a b c d) e f) = (meetB c d e f && meetB a b (meetE c d e f) (meetL c d e f)) := by
    apply bool_ext
    simp only [Bool.and_eq_true]
    constructor
    · rintro ⟨h1, h2⟩
      rw [meetE_t h1, meetL_t h1, meetB_iff] at h2
      rw [meetB_iff] at h1
      have h3 : meetB c d e f = true := (meetB_iff _ _ _ _).2 ⟨by omega, by omega, by omega⟩
      refine ⟨h3, ?_⟩
      rw [meetE_t h3, meetL_t h3, meetB_iff]
      omega
    · rintro ⟨h1, h2⟩
      rw [meetE_t h1, meetL_t h1, meetB_iff] at h2
      rw [meetB_iff] at h1
      have h3 : meetB a b c d = true := (meetB_iff _ _ _ _).2 ⟨by omega, by omega, by omega⟩
      refine ⟨h3, ?_⟩
      rw [meetE_t h3, meetL_t h3, meetB_iff]
      omega
  refine ⟨key, fun h => ?_⟩
  have h' := h
  rw [key] at h'
  simp only [Bool.and_eq_true] at h h'
  obtain ⟨h1, h2⟩ := h
  obtain ⟨h3, h4⟩ := h'
  rw [meetE_t h2, meetL_t h2, meetE_t h4, meetL_t h4, meetE_t h1, meetL_t h1, meetE_t h3, meetL_t h3]
  omega

theorem has_meet (a b c d k : Int) : (hasB a b k && hasB c d k) = (meetB a b c d && hasB (meetE a b c d) (meetL a b c d) k) := by
  apply bool_ext
  simp only [Bool.and_eq_true]
  constructor
  · rintro ⟨h1, h2⟩
    rw [hasB_iff] at h1 h2
    have h3 : meetB a b c d = true := (meetB_iff _ _ _ _).2 ⟨by omega, by omega, by omega⟩
    refine ⟨h3, ?_⟩
    rw [meetE_t h3, meetL_t h3, hasB_iff]
    omega
  · rintro ⟨h1, h2⟩
    rw [meetE_t h1, meetL_t h1, hasB_iff] at h2
    rw [meetB_iff] at h1
    rw [hasB_iff, hasB_iff]
    omega

end Go.Proofs.Ytljpcicahhfkpaa.Window

/-
  Two sums compared; bytes of a string cut and joined.
-/
import Derived.Test.YtkailfajemeeaaaDoorShaSum
namespace Go.Proofs.YtkailfajemeeaaaDoor.Sha
open Go.RowKit Go.Sort Go.Shelf Go.Proofs.YtkailfajemeeaaaDoor.Mem Go.Proofs.YtkailfajemeeaaaDoor.Route
set_option linter.unusedVariables false

theorem all_range {a b : List Nat} (n : Nat) (ha : a.length = n) (hb : b.length = n) : ((List.range' 0 n 1).all fun i => a.getD i 0 == b.getD i 0) = (a == b) := by
  rw [Bool.eq_iff_iff]
  simp only [List.all_eq_true, beq_iff_eq]
  constructor
  · intro h
    apply List.ext_getElem (by omega)
    intro i h1 h2
    have := h i (by simp; omega)
    simpa [List.getD, List.getElem?_eq_getElem h1, List.getElem?_eq_getElem h2] using this
  · rintro rfl i -
    rfl
theorem eqD (a b : List Nat) (ha : a.length = 32) (hb : b.length = 32) (w : World) :
    (Op.equalIn 10000 23 (.agg (a.map u8V).toArray) (.agg (b.map u8V).toArray)).run Tryd.prog w = .ok (a == b) w := by
  have ht : Tryd.prog.underlying 23 = some (.array 32 5) := Tryd.underlying23
  have he : Tryd.prog.underlying 5 = some (.int .u8) := Tryd.underlying5
  have hsz : ∀ w, (sizeOf 5).run Tryd.prog w = .ok 1 w := fun w => by kernel_rfl
  rw [← all_range 32 ha hb, Op.equalIn]
  simp only [Sem.run_bind, run_underlying ht, Result.andThen_ok, hsz, Std.Legacy.Range.forIn_eq_forIn_range', Std.Legacy.Range.size, Nat.sub_zero, Nat.add_sub_cancel, Nat.div_one]
  have hl : ∀ i ∈ List.range' 0 32 1, i < 32 := fun i hi => by simpa using (List.mem_range'_1.1 hi).2
  generalize List.range' 0 32 1 = l at hl ⊢
  induction l with
  | nil => simp
  | cons i l ih =>
    have hi : i < 32 := hl i (by simp)
    have px : (part 5 (a.map u8V).toArray (i * 1)).run Tryd.prog w = .ok (u8V (a.getD i 0)) w := by
      simp [part, isAgg, run_underlying he, List.getD, List.getElem?_eq_getElem (show i < a.length by omega)]
    have py : (part 5 (b.map u8V).toArray (i * 1)).run Tryd.prog w = .ok (u8V (b.getD i 0)) w := by
      simp [part, isAgg, run_underlying he, List.getD, List.getElem?_eq_getElem (show i < b.length by omega)]
    have pe : (Op.equalIn 9999 5 (u8V (a.getD i 0)) (u8V (b.getD i 0))).run Tryd.prog w = .ok (a.getD i 0 == b.getD i 0) w := by
      rw [u8V, u8V, run_equalIn_int w 9998 5 .u8 .u8 _ _ he]
      congr 1
      rw [Bool.eq_iff_iff]
      simp
      omega
    simp only [List.forIn_cons, Sem.run_bind, px, py, pe, Result.andThen_ok, List.all_cons]
    cases hb : (a.getD i 0 == b.getD i 0)
    · simp
    · simp only [Bool.not_true, Bool.false_eq_true, if_false, Sem.run_pure, Result.andThen_ok, Bool.true_and]
      exact ih fun j hj => hl j (by simp [hj])

/-- A sum is equal to itself. -/
theorem eq_sum (all : List Nat) (w : World) :
    (Op.equalIn 10000 23 (.agg ((sumL all).map u8V).toArray) (.agg ((sumL all).map u8V).toArray)).run Tryd.prog w = .ok true w := by
  rw [eqD _ _ (sumL_length _) (sumL_length _)]
  simp

theorem bytesOf_append (a b : ByteArray) : bytesOf (a ++ b) = bytesOf a ++ bytesOf b := by
  unfold bytesOf
  rw [ByteArray.data_append]
  simp
theorem bytesOf_extract (t : ByteArray) (i j : Nat) : bytesOf (t.extract i j) = ((bytesOf t).drop i).take (j - i) := by
  unfold bytesOf
  rw [ByteArray.data_extract]
  simp [List.map_take, List.map_drop]
theorem bytesOf_upto (t : ByteArray) (j : Nat) : bytesOf (t.extract 0 j) = (bytesOf t).take j := by rw [bytesOf_extract]; simp
theorem bytesOf_on (t : ByteArray) (i j : Nat) (h : i ≤ j) : bytesOf (t.extract 0 i) ++ bytesOf (t.extract i j) = bytesOf (t.extract 0 j) := by
  rw [bytesOf_upto, bytesOf_upto, bytesOf_extract]
  generalize bytesOf t = l
  rw [← List.take_add, show i + (j - i) = j by omega]
theorem bytesOf_whole (t : ByteArray) : bytesOf (t.extract 0 t.size) = bytesOf t := by
  rw [bytesOf_upto, ← bytesOf_length]
  exact List.take_length
theorem bytesOf_empty : bytesOf ⟨#[]⟩ = [] := rfl
theorem size_cut (t : ByteArray) (i j : Nat) (h : j ≤ t.size) : (t.extract i j).size = j - i := by
  rw [← bytesOf_length, bytesOf_extract, List.length_take, List.length_drop, bytesOf_length]
  omega

end Go.Proofs.YtkailfajemeeaaaDoor.Sha

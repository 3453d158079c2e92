/-
  OctetTells, what is put, what lies somewhere, and a text that is laid, or why not, is as the document says, returns true: for all texts, numbers, widths and places. No condition.
-/
import Derived.Test.YtjjmhkafhbeabaaOctTellsL
import Derived.Test.YtjjmhkafhbeabaaOctArgs
namespace Go.Proofs.Ytjjmhkafhbeabaa.octetTells
open Go.ChangeShapes Go.WideShapes Go.ChangeAt Go.RowKit Go.Proofs.Ytjjmhkafhbeabaa.Oct
set_option linter.unusedVariables false

set_option maxRecDepth 100000 in
set_option maxHeartbeats 4000000 in
theorem lifted (os : Os) (started : os.Started) (H : Type) (enc : TypeId × Value → H) :
    ReturnsInHanded {} Try.checked os 3 .any (Rows.octetTellsSpec.pre6 enc Try.prog Try.f3 Rows.octetTellsRow.domain false) (Rows.octetTellsSpec.post enc Try.prog Try.f3 false true false false) := by
  refine returnsInHanded_of_change_sized (C := Try.checked) own started (by kernel_rfl) Try.func3
    (ChangeSpec.witness6 (enc := enc) (C := Try.checked) false ⟨#[], #[.agg #[.string ⟨#[]⟩, .string ⟨#[]⟩], .int .u64 0, .agg #[.int .i64 0, .int .i64 0]], []⟩ 8 (by kernel_rfl) (by kernel_rfl) (by kernel_rfl) (by kernel_rfl)) ?_
  intro W base args ds gs before hval0 hW hcnd hzs _
  have hval : ∀ (j : Nat) t v, Try.f3.params[j]? = some t → args[j]? = some v → Value.okWide Try.prog W .any base t v := hval0
  have hW' := hW
  obtain ⟨p, q, hA0, hV, rfl, hfz, hnd⟩ := hW
  have hA : DataW.TrodAll enc Try.prog W 0 (fun _ => true) true Try.f3.params.toList args.toList ds p := hA0
  rw [Try.params3] at hA hval
  obtain ⟨v0, vs0, d0, ds0, p0, q0, hargs, rfl, rfl, h0, r0⟩ := trodAll_cons hA
  obtain ⟨v1, vs1, d1, ds1, p1, q1, rfl, rfl, rfl, h1, r1⟩ := trodAll_cons r0
  obtain ⟨v2, vs2, d2, ds2, p2, q2, rfl, rfl, rfl, h2, r2⟩ := trodAll_cons r1
  obtain ⟨rfl, rfl, rfl⟩ := trodAll_nil r2
  obtain rfl : args = #[v0, v1, v2] := by cases args; simp_all
  obtain ⟨rfl, rfl⟩ := trodVars_none hV
  obtain ⟨s, t, rfl, rfl⟩ := open_two (hval 0 22 v0 rfl rfl) h0
  obtain ⟨n1, rfl, rfl, rfl, w1⟩ := open_int Try.underlying23 (hval 1 23 v1 rfl rfl) h1
  obtain ⟨xs2, hl2, rfl, hx2⟩ := Close.open_numbers Try.underlying24 Try.underlying3 (by kernel_rfl) (by kernel_rfl) (hval 2 24 v2 rfl rfl) h2
  obtain ⟨x2, y2, rfl⟩ := list2T hl2
  have wx2 := hx2 x2 (by simp)
  have wy2 := hx2 y2 (by simp)
  obtain ⟨m1, rfl, hm1⟩ := u64_nat w1
  have zz := fun (n : Nat) (hn : n ∈ DataW.weights Try.prog 22 (H := H) (.agg [.lit (.string s), .lit (.string t)])) => of_decide_eq_true (List.all_eq_true.1 hzs n (DataW.weights_mem_each (j := 0) (t := 22) rfl rfl n hn))
  have hs := zz s.length (by simp [DataW.weights, Try.underlying22, DataW.weightsAll])
  have ht := zz t.length (by simp [DataW.weights, Try.underlying22, DataW.weightsAll])
  simp only [reachBytes] at hs ht
  exact (tells_walk s t m1 x2 y2 hm1 (by omega) (by omega) (i64_ends wy2).1 (i64_ends wy2).2 (i64_ends wx2).1 (i64_ends wx2).2 W).mono fun e W' ⟨he, hb⟩ => ⟨_, he, Close.law_post laidOut (by kernel_rfl) rfl (by kernel_rfl) Try.underlying4 hW' rfl hb⟩

theorem over : Rows.octetTellsRow.holds Try.pinned (OpenSpec.ofChange Rows.octetTellsSpec) :=
  OpenClaim.holds_of_wide 3 Try.f3 rfl rfl rfl rfl rfl rfl rfl ⟨rfl, rfl, rfl, rfl, rfl⟩ rfl rfl rfl rfl rfl (by kernel_rfl) Try.func3 (by kernel_rfl)
    (of_decide_eq_true (by kernel_rfl)) (by unfold Func.isWrapper; first | (rw [if_pos (by decide +kernel)]; kernel_rfl) | (rw [if_neg (by decide +kernel)]; exact ⟨rfl, rfl⟩))
    (fun os started H enc _ => lifted os started H enc)

theorem proved : Rows.OctetTellsSaid := over
#print axioms proved

end Go.Proofs.Ytjjmhkafhbeabaa.octetTells

import Derived.Test.YtpefdmkfmcjfnaaPkMsWorks

namespace Go.Proofs.Ytpefdmkfmcjfnaa.Mp
open Go.RowKit Go.Sort Go.Proofs.Ytpefdmkfmcjfnaa.Mem Go.Proofs.Ytpefdmkfmcjfnaa.Route Go.Proofs.Ytpefdmkfmcjfnaa.Oct Go.Proofs.Ytpefdmkfmcjfnaa.Ms
set_option linter.unusedVariables false
theorem numbers_walk (w : World) : Calls Try.prog 9 #[] w fun e w' => e = .returned (.bool true) ∧ Below w.heap.size w w' := by
 have h := Lib.hid (works_any w)
 go_enter Try.func9, Try.ntmps9
 go_wp2_with fail
 refine h.out.mono ?_
 rintro e w1 ⟨rfl, hb⟩
 go_wp2
 go_ret
 exact ⟨rfl, hb⟩
end Go.Proofs.Ytpefdmkfmcjfnaa.Mp
/-
  MsgNumbers, that the numbers of errors, of kinds of messages, of what became of a lot, and the limits, are as the document tells them, returns true (a closed statement). No condition.
-/
namespace Go.Proofs.Ytpefdmkfmcjfnaa.msgNumbers
open Go.ChangeShapes Go.WideShapes Go.ChangeAt Go.RowKit Go.Proofs.Ytpefdmkfmcjfnaa.Oct Go.Proofs.Ytpefdmkfmcjfnaa.Ms Go.Proofs.Ytpefdmkfmcjfnaa.Mp
set_option linter.unusedVariables false
set_option maxRecDepth 100000 in
set_option maxHeartbeats 4000000 in
theorem lifted (os : Os) (started : os.Started) (H : Type) (enc : TypeId × Value → H) :
 ReturnsInHanded {} Try.checked os 9 .any (Rows.msgNumbersSpec.pre6 enc Try.prog Try.f9 Rows.msgNumbersRow.domain false) (Rows.msgNumbersSpec.post enc Try.prog Try.f9 false true false false) := by
 refine returnsInHanded_of_change (C := Try.checked) own started (by kernel_rfl) Try.func9
  (ChangeSpec.witness6 (enc := enc) (C := Try.checked) false ⟨#[], #[], []⟩ 8 (by kernel_rfl) (by kernel_rfl) (by kernel_rfl) (by kernel_rfl)) ?_
 intro W base args ds gs before hval0 hW hcnd _
 have hW' := hW
 obtain ⟨p, q, hA0, hV, rfl, hfz, hnd⟩ := hW
 have hA : DataW.TrodAll enc Try.prog W 0 (fun _ => true) true Try.f9.params.toList args.toList ds p := hA0
 rw [Try.params9] at hA
 obtain ⟨rfl, rfl, rfl⟩ := trodAll_none hA
 obtain ⟨rfl, rfl⟩ := trodVars_none hV
 exact (numbers_walk W).mono fun e W' ⟨he, hb⟩ => ⟨_, he, Close.law_post laidOut (by kernel_rfl) rfl (by kernel_rfl) Try.underlying4 hW' rfl hb⟩
theorem over : Rows.msgNumbersRow.holds Try.pinned (OpenSpec.ofChange Rows.msgNumbersSpec) :=
 OpenClaim.holds_of_wide 9 Try.f9 rfl rfl rfl rfl rfl rfl rfl ⟨rfl, rfl, rfl, rfl, rfl⟩ rfl rfl rfl rfl rfl (by kernel_rfl) Try.func9 (by kernel_rfl)
  (of_decide_eq_true (by kernel_rfl)) (by unfold Func.isWrapper; first | (rw [if_pos (by decide +kernel)]; kernel_rfl) | (rw [if_neg (by decide +kernel)]; exact ⟨rfl, rfl⟩))
  (fun os started H enc _ => lifted os started H enc)
theorem proved : Rows.MsgNumbersSaid := over
#print axioms proved
end Go.Proofs.Ytpefdmkfmcjfnaa.msgNumbers

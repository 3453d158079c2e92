import Derived.Test.YtfoflfeaegfnnaaPkSlackRises
import Derived.Test.YtfoflfeaegfnnaaPkOpen
import Derived.Test.YtfoflfeaegfnnaaPkClose

/-
  SlackRises, along a route the latest Begins rise by at least what lies between two stops, none is later than its window or so late that it is not home in time, returns true: for all drafts. It has no condition.
-/
namespace Go.Proofs.Ytfoflfeaegfnnaa.slackRises
open Go.ChangeShapes Go.WideShapes Go.ChangeAt Go.RowKit Go.Proofs.Ytfoflfeaegfnnaa.Slack
set_option linter.unusedVariables false

set_option maxRecDepth 100000 in
theorem lifted (os : Os) (started : os.Started) (H : Type) (enc : TypeId × Value → H) :
    ReturnsInHanded {} Try.checked os 5 .any (Rows.slackRisesSpec.pre6 enc Try.prog Try.f5 Rows.slackRisesRow.domain false) (Rows.slackRisesSpec.post enc Try.prog Try.f5 false true false false) := by
  refine returnsInHanded_of_change (C := Try.checked) own started (by kernel_rfl) Try.func5
    (ChangeSpec.witness6 (enc := enc) (C := Try.checked) false ⟨#[], #[.agg #[.int .u8 0, .int .u8 0, .slice none 0 0, .slice none 0 0, .int .u8 0, .int .u16 0]], []⟩ 8 (by kernel_rfl) (by kernel_rfl) (by kernel_rfl) (by kernel_rfl)) ?_
  intro W base args ds gs before hval0 hW hcnd _
  have hval : ∀ (j : Nat) t v, Try.f5.params[j]? = some t → args[j]? = some v → Value.okWide Try.prog W .any base t v := hval0
  have hW' := hW
  obtain ⟨p, q, hA0, hV, rfl, hfz, hnd⟩ := hW
  have hA : DataW.TrodAll enc Try.prog W 0 (fun _ => true) true Try.f5.params.toList args.toList ds p := hA0
  rw [Try.params5] at hA hval
  obtain ⟨v0, vs0, d0, ds0, p0, q0, hargs, rfl, rfl, h0, r0⟩ := trodAll_cons hA
  obtain ⟨rfl, rfl, rfl⟩ := trodAll_nil r0
  obtain rfl : args = #[v0] := by cases args; simp_all
  obtain ⟨rfl, rfl⟩ := trodVars_none hV
  obtain ⟨a, wd, s0, e0, xr, xb, Nr, cr, Nb, cb, rs, bs, rfl, ha, hwd, hs0, he0, hrs, hbs, hR, hB⟩ := openDraft (hval 0 26 v0 rfl rfl) h0
  exact (rises_any a wd s0 e0 xr xb Nr cr Nb cb rs bs ha hwd hs0 he0 hrs hbs W hR hB).mono fun e W' ⟨he, hb⟩ => ⟨_, he, Close.law_post laidOut (by kernel_rfl) rfl (by kernel_rfl) Try.underlying4 hW' rfl hb⟩

theorem over : Rows.slackRisesRow.holds Try.pinned (OpenSpec.ofChange Rows.slackRisesSpec) :=
  OpenClaim.holds_of_wide 5 Try.f5 rfl rfl rfl rfl rfl rfl rfl ⟨rfl, rfl, rfl, rfl, rfl⟩ rfl rfl rfl rfl rfl (by kernel_rfl) Try.func5 (by kernel_rfl)
    (of_decide_eq_true (by kernel_rfl)) (by unfold Func.isWrapper; first | (rw [if_pos (by decide +kernel)]; kernel_rfl) | (rw [if_neg (by decide +kernel)]; exact ⟨rfl, rfl⟩))
    (fun os started H enc _ => lifted os started H enc)

theorem proved : Rows.SlackRisesSaid := over
#print axioms proved

end Go.Proofs.Ytfoflfeaegfnnaa.slackRises

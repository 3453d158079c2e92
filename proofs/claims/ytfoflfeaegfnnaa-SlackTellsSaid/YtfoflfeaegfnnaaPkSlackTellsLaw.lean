import Derived.Test.YtfoflfeaegfnnaaPkSlackTells
import Derived.Test.YtfoflfeaegfnnaaPkOpen
import Derived.Test.YtfoflfeaegfnnaaPkClose

/-
  SlackTells, the latest Begins, the floats, and what a push makes, or why not, is as the document says, returns true: for all drafts, stops, vehicles, and numbers. It has no condition.
-/
namespace Go.Proofs.Ytfoflfeaegfnnaa.slackTells
open Go.ChangeShapes Go.WideShapes Go.ChangeAt Go.RowKit Go.Proofs.Ytfoflfeaegfnnaa.Slack
set_option linter.unusedVariables false

set_option maxRecDepth 100000 in
theorem lifted (os : Os) (started : os.Started) (H : Type) (enc : TypeId × Value → H) :
    ReturnsInHanded {} Try.checked os 3 .any (Rows.slackTellsSpec.pre6 enc Try.prog Try.f3 Rows.slackTellsRow.domain false) (Rows.slackTellsSpec.post enc Try.prog Try.f3 false true false false) := by
  refine returnsInHanded_of_change (C := Try.checked) own started (by kernel_rfl) Try.func3
    (ChangeSpec.witness6 (enc := enc) (C := Try.checked) false ⟨#[], #[.agg #[.int .u8 0, .int .u8 0, .slice none 0 0, .slice none 0 0, .int .u8 0, .int .u16 0], .agg #[.slice none 0 0, .int .i64 0, .int .i64 0, .int .i64 0, .int .i64 0, .int .i64 0], .agg #[.int .i64 0, .int .i64 0]], []⟩ 8 (by kernel_rfl) (by kernel_rfl) (by kernel_rfl) (by kernel_rfl)) ?_
  intro W base args ds gs before hval0 hW hcnd _
  have hval : ∀ (j : Nat) t v, Try.f3.params[j]? = some t → args[j]? = some v → Value.okWide Try.prog W .any base t v := hval0
  have hW' := hW
  obtain ⟨p, q, hA0, hV, rfl, hfz, hnd⟩ := hW
  have hA : DataW.TrodAll enc Try.prog W 0 (fun _ => true) true Try.f3.params.toList args.toList ds p := hA0
  rw [Try.params3] at hA hval
  obtain ⟨v0, vs0, d0, ds0, p0, q0, hargs, rfl, rfl, h0, r0⟩ := trodAll_cons hA
  obtain ⟨v1, vs1, d1, ds1, p1, q1, rfl, rfl, rfl, h1, r1⟩ := trodAll_cons r0
  obtain ⟨v2, vs2, d2, ds2, p2, q2, rfl, rfl, rfl, h2, r2⟩ := trodAll_cons r1
  obtain ⟨rfl, rfl, rfl⟩ := trodAll_nil r2
  obtain rfl : args = #[v0, v1, v2] := by cases args; simp_all
  obtain ⟨rfl, rfl⟩ := trodVars_none hV
  obtain ⟨a, wd, s0, e0, xr, xb, Nr, cr, Nb, cb, rs, bs, rfl, ha, hwd, hs0, he0, hrs, hbs, hR, hB⟩ := openDraft (hval 0 26 v0 rfl rfl) h0
  obtain ⟨xl, Nl, cl, l2, x2, rfl, hL2, hn2⟩ := openAny (hval 1 33 v1 rfl rfl) h1
  obtain ⟨n0, n1, rfl, hn0, hn1⟩ := openTwo (hval 2 34 v2 rfl rfl) h2
  exact (tells_any a wd s0 e0 xr xb Nr cr Nb cb rs bs ha hwd hs0 he0 hrs hbs xl Nl cl l2 x2 hn2 n0 n1 hn0 hn1 W hR hB hL2).mono fun e W' ⟨he, hb⟩ => ⟨_, he, Close.law_post laidOut (by kernel_rfl) rfl (by kernel_rfl) Try.underlying4 hW' rfl hb⟩

theorem over : Rows.slackTellsRow.holds Try.pinned (OpenSpec.ofChange Rows.slackTellsSpec) :=
  OpenClaim.holds_of_wide 3 Try.f3 rfl rfl rfl rfl rfl rfl rfl ⟨rfl, rfl, rfl, rfl, rfl⟩ rfl rfl rfl rfl rfl (by kernel_rfl) Try.func3 (by kernel_rfl)
    (of_decide_eq_true (by kernel_rfl)) (by unfold Func.isWrapper; first | (rw [if_pos (by decide +kernel)]; kernel_rfl) | (rw [if_neg (by decide +kernel)]; exact ⟨rfl, rfl⟩))
    (fun os started H enc _ => lifted os started H enc)

theorem proved : Rows.SlackTellsSaid := over
#print axioms proved

end Go.Proofs.Ytfoflfeaegfnnaa.slackTells

/-
  SceneTells returns true for every draft, turn and scene: of the scene that is drawn, of the same with one thing otherwise, and of any scene (its lists cut short), the program tells just the fault, and just the owners, that the document's answer has. Its condition: package errors' variable errorType holds the handle of the type error when the call begins, which the card ties to the program's text.
-/
import Derived.Test.YtlkijbakfoabaaaDoorTells
import Derived.Test.YtlkijbakfoabaaaDoorTellOpen
import Derived.Test.YtlkijbakfoabaaaDoorSceneLaid
namespace Go.Proofs.YtlkijbakfoabaaaDoor.sceneTells
open Go.ChangeShapes Go.WideShapes Go.ChangeAt Go.RowKit Go.Sort
open Go.Proofs.YtlkijbakfoabaaaDoor.Scene Go.Proofs.YtlkijbakfoabaaaDoor.Laid

set_option maxRecDepth 100000 in
theorem lifted (os : Os) (started : os.Started) (H : Type) (enc : TypeId × Value → H) :
    ReturnsInHanded {} Tryd.checked os 3 .any (fun w args => (Rows.sceneTellsSpec.pre enc Tryd.prog Tryd.f3 [] false w args ∧ laidMetH Tryd.prog Rows.sceneTellsRow.laid w) ∧ sizedMet enc Tryd.prog Tryd.f3 (OpenSpec.ofChange Rows.sceneTellsSpec) false w args)
      (Rows.sceneTellsSpec.post enc Tryd.prog Tryd.f3 false true false false) := by
  refine returnsInHanded_of_change_and (C := Tryd.checked) (X := fun w _ => laidMetH Tryd.prog Rows.sceneTellsRow.laid w) (fun _ _ _ hh h => h.of_heap hh) own started (by kernel_rfl) Tryd.func3
    (ChangeSpec.witness_at (enc := enc) (C := Tryd.checked) (os := os) (X := fun w _ => laidMetH Tryd.prog Rows.sceneTellsRow.laid w) false (laidWorld os) #[.agg #[.slice none 0 0, .int .u8 0, .int .u8 0, .int .u8 0, .int .i64 0], .agg #[.int .u8 0, .int .u8 0, .int .i64 0], .agg #[.slice none 0 0, .slice none 0 0, .slice none 0 0, .int .i64 0, .int .i64 0, .int .i64 0, .slice none 0 0]] 8 rfl (by kernel_rfl) (by kernel_rfl) (by kernel_rfl) (by kernel_rfl) (by kernel_rfl) (laidWorld_met os _)) ?_
  intro W base args ds gs before hval0 hW _ _ hL _
  have hval : ∀ (j : Nat) t v, Tryd.f3.params[j]? = some t → args[j]? = some v → Value.okWide Tryd.prog W .any base t v := hval0
  have hW' := hW
  obtain ⟨p, qz, hA0, hV, rfl, hfz, hnd⟩ := hW
  have hA : DataW.TrodAll enc Tryd.prog W 0 (fun _ => true) true Tryd.f3.params.toList args.toList ds p := hA0
  rw [Tryd.params3] at hA hval
  obtain ⟨v0, vs0, d0, ds0, p0, q0, hargs, rfl, rfl, h0, r0⟩ := trodAll_cons hA
  obtain ⟨v1, vs1, d1, ds1, p1, q1, rfl, rfl, rfl, h1, r1⟩ := trodAll_cons r0
  obtain ⟨v2, vs2, d2, ds2, p2, q2, rfl, rfl, rfl, h2, r2⟩ := trodAll_cons r1
  obtain ⟨rfl, rfl, rfl⟩ := trodAll_nil r2
  obtain rfl : args = #[v0, v1, v2] := by cases args; simp_all
  obtain ⟨rfl, rfl⟩ := trodVars_none hV
  obtain ⟨sv, bs, a, b, c, k, rfl, hrow, hbyte, ha, hb, hc⟩ := openDraft (hval 0 25 v0 rfl rfl) h0
  obtain ⟨wh, ax, N, rfl, hwh, hax, hN⟩ := openTurn (hval 1 27 v1 rfl rfl) h1
  obtain ⟨rR, rC, rL, rD, uq, q, rfl, hQ, hq1, hq2⟩ := openScene (hval 2 33 v2 rfl rfl) h2
  exact (tells_any W (hd_of_laid hL) sv bs a b c k hrow hbyte ha hb hc wh ax N hwh hax hN rR rC rL rD uq q hQ hq1 hq2).mono fun e W' ⟨he, hb⟩ => ⟨_, he, Close.law_post laidOut (by kernel_rfl) rfl (by kernel_rfl) Tryd.underlying4 hW' rfl hb⟩

theorem over : Rows.SceneTellsSaid :=
  OpenClaim.holds_of_wide 3 Tryd.f3 rfl rfl rfl rfl rfl rfl rfl ⟨rfl, rfl, rfl, rfl, rfl⟩ rfl rfl rfl rfl rfl (by kernel_rfl) Tryd.func3 (by kernel_rfl)
    (of_decide_eq_true (by kernel_rfl)) (by unfold Func.isWrapper; first | (rw [if_pos (by decide +kernel)]; kernel_rfl) | (rw [if_neg (by decide +kernel)]; exact ⟨rfl, rfl⟩))
    (fun os started H enc _ => lifted os started H enc)

theorem proved : Rows.SceneTellsCardSaid :=
  Claim7.holds_tied_plain_at .later [] [.handle] true (true, "a970ae08fd78d63ac5040461b00b818b97a90104ac22c8b13a19b0217953bb49") true
    over (fun _ h => by cases h) (by kernel_rfl) (fun _ h => by cases h) sceneTells_row_tie rfl ⟨rfl, rfl⟩ (by kernel_rfl) rfl
    (fun f fn hf hfn => by
      obtain rfl : f = 3 := Option.some.inj ((show Tryd.prog.funcNamed "consign/consignlaw05.SceneTells" = some 3 by kernel_rfl).symm.trans hf) |>.symm
      obtain rfl : fn = Tryd.f3 := (Option.some.inj (Tryd.func3.symm.trans hfn)).symm
      exact ⟨by kernel_rfl, fun j t ht => by
        rw [Tryd.params3] at ht
        match j, ht with
        | 0, ht => obtain rfl : 25 = t := by simpa using ht
                   exact (show Tryd.prog.wantsStandIn 25 = false by kernel_rfl)
        | 1, ht => obtain rfl : 27 = t := by simpa using ht
                   exact (show Tryd.prog.wantsStandIn 27 = false by kernel_rfl)
        | 2, ht => obtain rfl : 33 = t := by simpa using ht
                   exact (show Tryd.prog.wantsStandIn 33 = false by kernel_rfl)
        | j + 3, ht => simp at ht⟩)
    (by kernel_rfl)
#print axioms proved

end Go.Proofs.YtlkijbakfoabaaaDoor.sceneTells

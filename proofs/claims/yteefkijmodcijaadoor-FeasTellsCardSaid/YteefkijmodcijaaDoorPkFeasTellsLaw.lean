import Derived.Test.YteefkijmodcijaaDoorPkFeasTells
import Derived.Test.YteefkijmodcijaaDoorPkFeasLaid

/-
  FeasTells, what is wrong with a route, and where, and whether times serve it, is as the document says, returns true: for all drafts and times, stops, and requests. Its condition: package errors' variable errorType holds the handle of the type error when the call begins, which the card ties to the program's text.
-/
namespace Go.Proofs.YteefkijmodcijaaDoor.feasTells
open Go.ChangeShapes Go.WideShapes Go.ChangeAt Go.RowKit Go.Sort
open Go.Proofs.YteefkijmodcijaaDoor.Feas Go.Proofs.YteefkijmodcijaaDoor.Laid Go.Proofs.YteefkijmodcijaaDoor.When

set_option maxRecDepth 100000 in
theorem lifted (os : Os) (started : os.Started) (H : Type) (enc : TypeId × Value → H) :
    ReturnsInHanded {} Tryd.checked os 3 .any (fun w args => (Rows.feasTellsSpec.pre enc Tryd.prog Tryd.f3 [] false w args ∧ laidMetH Tryd.prog Rows.feasTellsRow.laid w) ∧ sizedMet enc Tryd.prog Tryd.f3 (OpenSpec.ofChange Rows.feasTellsSpec) false w args)
      (Rows.feasTellsSpec.post enc Tryd.prog Tryd.f3 false true false false) := by
  refine returnsInHanded_of_change_and (C := Tryd.checked) (X := fun w _ => laidMetH Tryd.prog Rows.feasTellsRow.laid w) (fun _ _ _ hh h => h.of_heap hh) own started (by kernel_rfl) Tryd.func3
    (ChangeSpec.witness_at (enc := enc) (C := Tryd.checked) (os := os) (X := fun w _ => laidMetH Tryd.prog Rows.feasTellsRow.laid w) false (laidWorld os) #[.agg #[.slice none 0 0, .int .u8 0, .int .u8 0, .int .i64 0], .agg #[.slice none 0 0, .int .u8 0, .int .u8 0, .int .i8 0], .slice none 0 0, .slice none 0 0, .slice none 0 0] 8 rfl (by kernel_rfl) (by kernel_rfl) (by kernel_rfl) (by kernel_rfl) (by kernel_rfl) (laidWorld_met os _)) ?_
  intro W base args ds gs before hval0 hW _ _ hL _
  have hval : ∀ (j : Nat) t v, Tryd.f3.params[j]? = some t → args[j]? = some v → Value.okWide Tryd.prog W .any base t v := hval0
  have hW' := hW
  obtain ⟨p, q, hA0, hV, rfl, hfz, hnd⟩ := hW
  have hA : DataW.TrodAll enc Tryd.prog W 0 (fun _ => true) true Tryd.f3.params.toList args.toList ds p := hA0
  rw [Tryd.params3] at hA hval
  obtain ⟨v0, vs0, d0, ds0, p0, q0, hargs, rfl, rfl, h0, r0⟩ := trodAll_cons hA
  obtain ⟨v1, vs1, d1, ds1, p1, q1, rfl, rfl, rfl, h1, r1⟩ := trodAll_cons r0
  obtain ⟨v2, vs2, d2, ds2, p2, q2, rfl, rfl, rfl, h2, r2⟩ := trodAll_cons r1
  obtain ⟨v3, vs3, d3, ds3, p3, q3, rfl, rfl, rfl, h3, r3⟩ := trodAll_cons r2
  obtain ⟨v4, vs4, d4, ds4, p4, q4, rfl, rfl, rfl, h4, r4⟩ := trodAll_cons r3
  obtain ⟨rfl, rfl, rfl⟩ := trodAll_nil r4
  obtain rfl : args = #[v0, v1, v2, v3, v4] := by cases args; simp_all
  obtain ⟨rfl, rfl⟩ := trodVars_none hV
  obtain ⟨xb, Nb, cb, bs, a, b, c, rfl, hbs, hby, ha, hb⟩ := openDraft (hval 0 _ _ rfl rfl) h0
  obtain ⟨yb, My, cy, ys, A, Wh, M, rfl, hys, hyb, hA', hWh, hM⟩ := openPush (hval 1 _ _ rfl rfl) h1
  obtain ⟨l, hrow, hnum⟩ := openStops (hval 2 _ _ rfl rfl) h2
  obtain ⟨t, htab⟩ := openRqs (hval 3 _ _ rfl rfl) h3
  obtain ⟨ts, htms⟩ := openTms (hval 4 _ _ rfl rfl) h4
  exact (walk xb Nb cb bs a b c hby ha hb yb My cy ys A Wh M hyb hA' hWh hM v2 v3 v4 l t ts hnum W (hd_of_laid hL) hbs hys hrow htab htms).mono fun e W' ⟨he, hb⟩ => ⟨_, he, Close.law_post laidOut (by kernel_rfl) rfl (by kernel_rfl) Tryd.underlying4 hW' rfl hb⟩

theorem over : Rows.FeasTellsSaid :=
  OpenClaim.holds_of_wide 3 Tryd.f3 rfl rfl rfl rfl rfl rfl rfl ⟨rfl, rfl, rfl, rfl, rfl⟩ rfl rfl rfl rfl rfl (by kernel_rfl) Tryd.func3 (by kernel_rfl)
    (of_decide_eq_true (by kernel_rfl)) (by unfold Func.isWrapper; first | (rw [if_pos (by decide +kernel)]; kernel_rfl) | (rw [if_neg (by decide +kernel)]; exact ⟨rfl, rfl⟩))
    (fun os started H enc _ => lifted os started H enc)

theorem proved : Rows.FeasTellsCardSaid :=
  Claim7.holds_tied_plain_at .later [] [.handle] true (true, "bda2c9581356fe53fbfd76e26e615a935428645df940fda34bccc6b897ec1fc9") true
    over (fun _ h => by cases h) (by kernel_rfl) (fun _ h => by cases h) feasTells_row_tie rfl ⟨rfl, rfl⟩ (by kernel_rfl) rfl
    (fun f fn hf hfn => by
      obtain rfl : f = 3 := Option.some.inj ((show Tryd.prog.funcNamed "consign/consignlaw09.FeasTells" = some 3 by kernel_rfl).symm.trans hf) |>.symm
      obtain rfl : fn = Tryd.f3 := (Option.some.inj (Tryd.func3.symm.trans hfn)).symm
      exact ⟨by kernel_rfl, fun j t ht => by
        rw [Tryd.params3] at ht
        have hm : t ∈ [24, 27, 28, 29, 30] := by simpa using Array.mem_of_getElem? ht
        have hall : ([24, 27, 28, 29, 30].all fun u => !Tryd.prog.wantsStandIn u) = true := by kernel_rfl
        exact (show Tryd.prog.wantsStandIn t = false by simpa using List.all_eq_true.1 hall t hm)⟩)
    (by kernel_rfl)
#print axioms proved

end Go.Proofs.YteefkijmodcijaaDoor.feasTells

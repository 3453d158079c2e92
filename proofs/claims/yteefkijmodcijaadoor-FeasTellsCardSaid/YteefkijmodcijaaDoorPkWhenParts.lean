import Derived.Test.YteefkijmodcijaaDoorPkWhenDraft3

/-
  The contract of a draft's Parts.
-/
namespace Go.Proofs.YteefkijmodcijaaDoor.When
open Go.RowKit Go.Proofs.YteefkijmodcijaaDoor.Mem Go.Proofs.YteefkijmodcijaaDoor.Route
set_option linter.unusedVariables false

/-- What a draft gives. -/
def PartsOk (W : World) (v : Vh) (ul ut : Value) (l : List (Int × Int)) (t : List Rq) : Prop :=
  v.dr ∧ Row W.heap.size W ul l ∧ Fine l t.length ∧ l.length ≤ 12 ∧ Rqs W.heap.size W ut t ∧ t.length ≤ 6 ∧ ∀ q ∈ t, q.dr
theorem res_parts2 {fn : Func} {p c d : Tmp} (h : fn.results = #[.cell p 34, .tmp c, .tmp d]) {tmps : Array Value} {w : World} {g : Nat} {x0 x1 x2 x3 x4 b b2 : Value} (hp : tmps.getD p undef = .pointer (some ⟨g, 0, none⟩)) (hc : tmps.getD c undef = b) (hd : tmps.getD d undef = b2)
    (hA : At w g 34 #[x0, x1, x2, x3, x4]) : (results fn tmps).run Tryd.prog w = .ok (.tuple #[.agg #[x0, x1, x2, x3, x4], b, b2]) w := by
  have hp' : tmps[p]?.getD undef = .pointer (some ⟨g, 0, none⟩) := by simpa using hp
  have hc' : tmps[c]?.getD undef = b := by simpa using hc
  have hd' : tmps[d]?.getD undef = b2 := by simpa using hd
  have c0 := hA.cell 0
  have c1 := hA.cell 1
  have c2 := hA.cell 2
  have c3 := hA.cell 3
  have c4 := hA.cell 4
  simp at c0 c1 c2 c3 c4
  simp only [results, h]
  go_simp

set_option maxRecDepth 100000 in
set_option maxHeartbeats 1000000 in
theorem parts_any (xb : Option Addr) (Nb cb : Nat) (bs : List Int) (a b c : Int) (w : World) (hrow : RowB w.heap.size w (.slice xb Nb cb) 1 (bs.map byV)) (hby : ∀ x ∈ bs, 0 ≤ x ∧ x < 256) (ha : 0 ≤ a ∧ a < 256) (hb : 0 ≤ b ∧ b < 256) :
    Calls Tryd.prog 11 #[.agg #[.slice xb Nb cb, .int .u8 a, .int .u8 b, .int .i64 c]] w fun e w' =>
      (∃ v ul ut l t, e = .returned (.tuple #[.agg #[.int .i64 v.hx, .int .i64 v.hy, .int .i64 v.cp, .int .i64 v.st, .int .i64 v.en], ul, ut]) ∧ PartsOk w' v ul ut l t) ∧ Below w.heap.size w w' := by
  obtain ⟨w0, hw0⟩ : ∃ w0, (w.alloc (.cells #[.slice xb Nb cb, .int .u8 a, .int .u8 b, .int .i64 0] 24)).alloc (.cells #[.int .i64 0, .int .i64 0, .int .i64 0, .int .i64 0, .int .i64 0] 34) = w0 := ⟨_, rfl⟩
  obtain ⟨g, hg⟩ : ∃ g, w.heap.size = g := ⟨_, rfl⟩
  have hs0 : w0.heap.size = g + 2 := by rw [← hw0, ← hg]; simp
  have hB0 : Below g w w0 := by rw [← hw0]; exact ((Below.refl _ _).alloc (by omega) _).alloc (by simp; omega) _
  have hD0 : DraftAt w0 g (.slice xb Nb cb) bs a b 0 := by
    refine ⟨?_, ?_, hby, ha, hb⟩
    · rw [← hw0]; exact (At.new_ _ _ _ hg.symm).alloc _
    · rw [← hg] at hB0 ⊢
      exact hrow.keep hB0 (Nat.le_refl _)
  have hV0 : At w0 (g + 1) 34 #[.int .i64 0, .int .i64 0, .int .i64 0, .int .i64 0, .int .i64 0] := by rw [← hw0]; exact At.new_ _ _ _ (by simp [hg])
  obtain ⟨m, hm⟩ : ∃ m : Nat, a % 7 = m := ⟨(a % 7).toNat, by omega⟩
  have hm6 : m ≤ 6 := by omega
  have ha1 : 0 ≤ a := ha.1
  have ha2 : a < 256 := ha.2
  have hw0' := Lib.hid hw0
  have p1 := hD0.box.cell 1
  simp at p1
  clear hrow hby ha hb hw0
  go_enter Tryd.func11, Tryd.ntmps11
  go_upto_region 2 with fail
  rw [hw0'.out]
  have hcQ := drequests_any w0 g _ bs a b 0 m hD0 (by omega) hm6
  rw [hs0] at hcQ
  clear hD0
  go_wp2_with fail
  refine hcQ.mono ?_
  clear hcQ p1
  rintro e w1 ⟨⟨u, t, rfl, hown, htl, hch⟩, hD1, hg1⟩
  have htl' := Lib.hid htl
  clear htl
  have hV1 := At.grownOff hV0 hg1 (by omega)
  have hs1 : g + 2 ≤ w1.heap.size := by have := hg1.size; omega
  have hB1 : Below g w w1 := hB0.grown hg1 (by omega) (fun r e => by cases e; exact Nat.le_refl _)
  have hcV := dvehicle_any w1 g _ bs a b (0 + 8 * m) hD1 (by omega)
  rw [htl'.out] at hown
  obtain ⟨x1, c1, rfl, _, _⟩ := owns_slice hown
  have hown' := Lib.hid hown
  clear hg1 hV0 hD1 hB0 hown
  go_wp2_with fail
  refine hcV.mono ?_
  clear hcV
  rintro e w2 ⟨⟨v, rfl, hv⟩, hD2, hg2⟩
  have hV2 := At.grownOff hV1 hg2 (by omega)
  have hs2 : g + 2 ≤ w2.heap.size := by have := hg2.size; omega
  have hB2 : Below g w w2 := hB1.grown hg2 (by omega) (fun r e => by cases e; exact Nat.le_refl _)
  have hown2 := Lib.hid (owns_old hown'.out hg2 (fun r e => .inl (by cases e; omega)))
  have hcR := droute_any w2 g _ bs a b (0 + 8 * m + 5) m hD2 (by omega) hm6
  clear hg2 hV1 hD2 hB1 hown'
  go_wp2_with fail
  refine hcR.mono ?_
  clear hcR
  rintro e w3 ⟨⟨u3, l, rfl, hown3, hll, hsm⟩, hg3⟩
  have hV3 := At.grownOff hV2 hg3 (by omega)
  have hs3 : g + 1 < w3.heap.size := by have := hg3.size; omega
  have hB3 : Below g w w3 := hB2.grown hg3 (by omega) (fun r e => by cases e; exact Nat.le_refl _)
  have hown4 := owns_far (owns_far (owns_far (owns_far (owns_far (owns_old hown2.out hg3 (fun r e => .inl (by cases e; omega))) (b := g + 1) (by omega) 0 (.int .i64 v.hx)) (b := g + 1) (by omega) 1 (.int .i64 v.hy)) (b := g + 1) (by omega) 2 (.int .i64 v.cp)) (b := g + 1) (by omega) 3 (.int .i64 v.st)) (b := g + 1) (by omega) 4 (.int .i64 v.en)
  have hown5 := owns_far (owns_far (owns_far (owns_far (owns_far hown3 (b := g + 1) (by omega) 0 (.int .i64 v.hx)) (b := g + 1) (by omega) 1 (.int .i64 v.hy)) (b := g + 1) (by omega) 2 (.int .i64 v.cp)) (b := g + 1) (by omega) 3 (.int .i64 v.st)) (b := g + 1) (by omega) 4 (.int .i64 v.en)
  obtain ⟨x3, c3, rfl, _, _⟩ := owns_slice hown3
  have hB5 := ((((hB3.setCell (p := ⟨g + 1, 0, none⟩) (by simp) (.int .i64 v.hx)).setCell (p := ⟨g + 1, 1, none⟩) (by simp) (.int .i64 v.hy)).setCell (p := ⟨g + 1, 2, none⟩) (by simp) (.int .i64 v.cp)).setCell (p := ⟨g + 1, 3, none⟩) (by simp) (.int .i64 v.st)).setCell (p := ⟨g + 1, 4, none⟩) (by simp) (.int .i64 v.en)
  have hV5 := put5 (y0 := .int .i64 v.hx) (y1 := .int .i64 v.hy) (y2 := .int .i64 v.cp) (y3 := .int .i64 v.st) (y4 := .int .i64 v.en) hV3
  have z0 := hV3.cell 0
  have z1 := hV3.cell 1
  have z2 := hV3.cell 2
  have z3 := hV3.cell 3
  have z4 := hV3.cell 4
  have zf := hV3.free
  simp at z0 z1 z2 z3 z4
  have h4 := Lib.hid hown4
  have h5 := Lib.hid hown5
  have h6 := Lib.hid hB5
  have h7 := Lib.hid hV5
  have hll' := Lib.hid hll
  clear hown4 hown5 hB5 hV5 hV3 hV2 hB2 hB3 hg3 hown2 hown3 hll
  go_wp2
  refine bodyPost_ret (res_parts2 rfl rfl rfl rfl (by exact h7.out)) rfl ?_
  refine ⟨⟨v, _, _, l, t, rfl, hv, Row.of_owns h5.out rfl (Nat.le_refl _), by rw [htl'.out]; exact hsm, by rw [hll'.out]; omega, Rqs.of_owns h4.out htl'.out.symm (Nat.le_refl _), by rw [htl'.out]; omega, hch⟩, ?_⟩
  rw [hg]
  exact h6.out

end Go.Proofs.YteefkijmodcijaaDoor.When

/-
  Contract of the answer's own Owners.
-/
import Derived.Test.YtlkijbakfoabaaaDoorSceneRefCheck
import Derived.Deep.AppendLies
namespace Go.Proofs.YtlkijbakfoabaaaDoor.Scene
open Go.RowKit Go.Proofs.YtlkijbakfoabaaaDoor.Mem
set_option linter.unusedVariables false

def intsV (xs : List Int) : List Value := xs.map fun x => .int .i64 x
theorem intsV_snoc (xs : List Int) (x : Int) : intsV (xs ++ [x]) = intsV xs ++ [.int .i64 x] := by simp [intsV]
theorem Below.grow {w w' : World} (h : Below w.heap.size w w') : w.grownBy w' none := ⟨h.os, h.tape, h.output, h.size, fun k hk _ => h.block k hk⟩

/-- A row of numbers that a call owns reads as these numbers. -/
theorem row_of_ints {W : World} {base n : Nat} {t : TypeId} {v : Value} {xs : List Int} (h : W.ownsRow base t 1 v n (intsV xs)) (hn : n = xs.length) : RowB W.heap.size W v 1 (xs.map inV) := by
  subst hn
  rcases h.2 with ⟨rfl, h0⟩ | ⟨g, cap, cur, rfl, hb, hg, h1, h2, h3, h4⟩
  · obtain rfl := List.eq_nil_of_length_eq_zero h0
    exact ⟨none, 0, rfl, Nat.le_refl _, Nat.zero_le _, fun j r hj => by simp at hj⟩
  · have hx : ∀ j, j < xs.length → (intsV xs)[j]? = some (.int .i64 (xs[j]?.getD 0)) := by
      intro j hj
      simp [intsV, hj]
    have hr := row_of_owns (f := fun j => xs[j]?.getD 0) h hx
    have e : (List.range xs.length).map (fun j => xs[j]?.getD 0) = xs := by
      apply List.ext_getElem?
      intro j
      by_cases hj : j < xs.length
      · simp [hj]
      · simp [hj]
    rwa [e] at hr

set_option maxRecDepth 100000 in
set_option maxHeartbeats 4000000 in
theorem refOwners_any (s : Sc) (vR vC vL vD : Value) (us : List (Value × Value)) (cm rv sch : Int) (hrq : s.reqs.length ≤ 1000000) (hcn : s.cars.length ≤ 1000000) (w : World) (h : SceneAt w.heap.size w vR vC vL vD us s) :
    Calls Tryd.prog 15 #[.agg #[vR, vC, vL, .int .i64 cm, .int .i64 rv, .int .i64 sch, vD]] w fun e w' =>
      (∃ u, e = .returned u ∧ RowB w'.heap.size w' u 1 ((ownersL s).map inV)) ∧ Below w.heap.size w w' := by
  have hRV := h.reqs
  have hCV := h.cars.row
  have hus := h.cars.len
  have hLV := h.lots
  have hDV := h.draws
  obtain ⟨xR, capR, rfl, hlenR, hcapR, _⟩ := hRV
  obtain ⟨xC, capC, rfl, hlenC, hcapC, _⟩ := hCV
  obtain ⟨xL, capL, rfl, _, _, _⟩ := hLV
  obtain ⟨xD, capD, rfl, _, _⟩ := hDV
  simp only [List.length_map, hus] at hlenR hlenC h ⊢
  unfold maxLen at hcapR hcapC
  obtain ⟨i0, hi, hz0, hz1, hz2⟩ := info_parts info_int
  obtain ⟨w1, hw1⟩ : ∃ w1, w.alloc (.cells #[.slice xR s.reqs.length capR, .slice xC s.cars.length capC, .slice xL s.lots.length capL, .int .i64 cm, .int .i64 rv, .int .i64 sch, .slice xD s.draws capD] 33) = w1 := ⟨_, rfl⟩
  have hb1 : Below w.heap.size w w1 := by rw [← hw1]; exact (Below.refl _ _).alloc (Nat.le_refl _) _
  have hs1 : w1.heap.size = w.heap.size + 1 := by rw [← hw1]; simp
  have hP1 : At w1 w.heap.size 33 #[.slice xR s.reqs.length capR, .slice xC s.cars.length capC, .slice xL s.lots.length capL, .int .i64 cm, .int .i64 rv, .int .i64 sch, .slice xD s.draws capD] := by rw [← hw1]; exact At.new _ _ _
  have hS := Lib.hid (fun W (hb : Below w1.heap.size w1 W) => (h.keep hb1 (Nat.le_refl _)).keep hb (by omega))
  have hb1' := Lib.hid hb1
  have hs1' := Lib.hid hs1
  clear h hus hb1 hs1
  go_enter Tryd.func15, Tryd.ntmps15
  go_upto_region 3 with fail
  clear hw1
  go_loopw [3, 4] (fun v i wr => ∃ (k : Nat), i = .int .i64 k ∧ k ≤ s.reqs.length ∧ wr.ownsRow w1.heap.size 3 1 v k (intsV ((List.range k).map fun r : Nat => ownerV s (r : Int))) ∧ Below w1.heap.size w1 wr ∧
      At wr w.heap.size 33 #[.slice xR s.reqs.length capR, .slice xC s.cars.length capC, .slice xL s.lots.length capL, .int .i64 cm, .int .i64 rv, .int .i64 sch, .slice xD s.draws capD])
    (fun _ i _ => s.reqs.length - (intOf i).toNat)
  case atStart => exact ⟨0, rfl, Nat.zero_le _, World.ownsRow_nil _ _ _ _, Below.refl _ _, hP1⟩
  case round =>
    clear hP1
    obtain ⟨k, rfl, hk, hown, hb, hP⟩ := hrel
    have p0 := hP.cell 0
    have p1 := hP.cell 1
    have p2 := hP.cell 2
    have p3 := hP.cell 3
    have p4 := hP.cell 4
    have p5 := hP.cell 5
    have p6 := hP.cell 6
    simp at p0 p1 p2 p3 p4 p5 p6
    by_cases hlt : k < s.reqs.length
    · go_wp2_with fail
      have hs := hs1'.out
      have hbs := hb.size
      refine (refOwner_any s _ _ _ _ us _ _ _ k s.cars.length (by omega) w.heap.size _ (by omega) (hS.out _ hb)).mono ?_
      rintro e w2 ⟨rfl, hb2⟩
      rw [ownA_all]
      have hown2 := hown.kept (Below.grow hb2) (by
        rcases hown.2 with ⟨h1, _⟩ | ⟨g, cap, cur, h1, _⟩
        · left; rw [h1]; rfl
        · right; rw [h1]; simp [Value.ownBlock])
      have hB2 := hb.trans (hb2.mono hb.size)
      have hP2 := hP.keep hb2 hP.inside
      clear hown hb hb2 hP p0 p1 p2 p3 p4 p5 p6 hs hbs
      go_wp2_with (at_builtin; refine wpList_append_own _ rfl _ _ 46 rfl w1.heap.size 3 i0 (.int .i64 0) 1 8 Tryd.underlying46 hi hz0 hz1 hz2 rfl (by decide) _ _ _ rfl (hown2.alloc _) ⟨w2.heap.size, 0, none⟩ 1 1 [.int .i64 (ownerV s (k : Int))] rfl rfl (World.news_of_block (cs := #[.int .i64 (ownerV s (k : Int))]) (t := 3) (fr := (0, 0)) (heap_alloc_new w2 _)) (by simp [Value.oneCell']) (by unfold maxLen; omega) (by omega) (by have := hB2.size; simp; omega) ?_; intro v7 w7 hown7 hgrow7 hnil7)
      have hb7 : Below w1.heap.size w1 w7 := (hB2.alloc hB2.size _).grown hgrow7 (by have := hB2.size; simp; omega) (fun b e => (hown2.lt b e).1)
      have hs := hs1'.out
      have hP7 : At w7 w.heap.size 33 #[.slice xR s.reqs.length capR, .slice xC s.cars.length capC, .slice xL s.lots.length capL, .int .i64 cm, .int .i64 rv, .int .i64 sch, .slice xD s.draws capD] := (hgrow7.block _ (by have := hP2.inside; simp; omega) (fun e => by have := (hown2.lt _ e.symm).1; omega)).trans (hP2.alloc _)
      go_roundw
      case rel =>
        refine ⟨k + 1, by go_num, hlt, ?_, hb7, hP7⟩
        rw [List.range_succ, List.map_append, List.map_singleton, intsV_snoc]
        exact hown7
      case measure => simp [intOf]; omega
    · obtain rfl : k = s.reqs.length := by omega
      have hr := Lib.hid (row_of_ints hown (by simp))
      have hB := Lib.hid (hb1'.out.trans (hb.mono (by have := hs1'.out; omega)))
      clear hown hb
      go_wp2
      go_ret
      exact ⟨⟨_, rfl, hr.out⟩, hB.out⟩

end Go.Proofs.YtlkijbakfoabaaaDoor.Scene

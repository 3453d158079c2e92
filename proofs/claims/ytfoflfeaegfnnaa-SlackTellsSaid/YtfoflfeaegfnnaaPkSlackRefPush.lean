import Derived.Test.YtfoflfeaegfnnaaPkSlackRefFrom
import Derived.Test.YtfoflfeaegfnnaaPkSlackPush2

/-
  The contract of the document's Push.
-/
namespace Go.Proofs.Ytfoflfeaegfnnaa.Slack
open Go.RowKit Go.Sort Go.Proofs.Ytfoflfeaegfnnaa.Mem Go.Proofs.Ytfoflfeaegfnnaa.Route Go.Proofs.Ytfoflfeaegfnnaa.When Go.Proofs.Ytfoflfeaegfnnaa.Tail
set_option linter.unusedVariables false

theorem push_as {v : Vh} {l : List (Int × Int)} {t : List Rq} {i by_ : Int} (h : errT v l t = 0) (hb : badP l i by_ = false) : pushE v l t i by_ = fromE v l t i by_ ∧ pushT v l t i by_ = fromT v l t i by_ ∧ pushH v l t i by_ = fromH v l t i by_ := by
  have e : pushE v l t i by_ = fromE v l t i by_ := by unfold pushE; rw [if_neg (by omega), hb]; rfl
  refine ⟨e, ?_, ?_⟩
  · unfold pushT
    rw [e]
    split
    · rfl
    · rename_i hn
      exact (from_nil hn).1.symm
  · unfold pushH
    rw [e]
    split
    · rfl
    · rename_i hn
      exact (from_nil hn).2.symm

set_option maxRecDepth 100000 in
set_option maxHeartbeats 4000000 in
theorem RefPush_all (v : Vh) (vl vt : Value) (l : List (Int × Int)) (t : List Rq) (hl : l.length ≤ 1000000) (hnum : Nums l) (i by_ : Int) (w : World) (hL : Row w.heap.size w vl l) (hT : Rqs w.heap.size w vt t) :
    Calls Try.prog 19 #[.agg #[.int .i64 v.hx, .int .i64 v.hy, .int .i64 v.cp, .int .i64 v.st, .int .i64 v.en], vl, vt, .int .i64 i, .int .i64 by_] w fun e w' =>
      (∃ u, e = .returned (.tuple #[u, .int .i64 (pushH v l t i by_), .int .i64 (pushE v l t i by_)]) ∧ Tms w'.heap.size w' u (pushT v l t i by_)) ∧ Below w.heap.size w w' := by
  obtain ⟨w1, hw1⟩ : ∃ w1, w.alloc (.cells #[.int .i64 v.hx, .int .i64 v.hy, .int .i64 v.cp, .int .i64 v.st, .int .i64 v.en] 31) = w1 := ⟨_, rfl⟩
  have hP1 := At.new w 31 #[.int .i64 v.hx, .int .i64 v.hy, .int .i64 v.cp, .int .i64 v.st, .int .i64 v.en]
  rw [hw1] at hP1
  have hb0 : Below w.heap.size w w1 := by rw [← hw1]; exact (Below.refl _ _).alloc (Nat.le_refl _) _
  have hFr := fun (i by_ : Int) (hb : 0 ≤ by_ ∧ by_ ≤ 1048576) (W : World) (hb1 : Below w.heap.size w W) => From_all v vl vt l t hl hnum i by_ hb W (hL.on hb1) (hT.on hb1)
  have hc := hFr (-1) 0 (by omega) w1 hb0
  obtain ⟨xl, Nl, capl, rfl, hNl, hl0, hlc1, hlc2⟩ := hL.opened
  obtain ⟨xt, Nt, capt, rfl, hNt0, htc1, htc2, ht0⟩ := hT.opened
  unfold maxLen at hlc2 htc2
  have hFr' := Lib.hid hFr
  rw [fromE_no (.inl rfl), (from_no (.inl rfl)).1, (from_no (.inl rfl)).2] at hc
  obtain ⟨E, hE⟩ : ∃ E, errT v l t = E := ⟨_, rfl⟩
  obtain ⟨H, hH⟩ : ∃ H, homeT v l t = H := ⟨_, rfl⟩
  rw [hE, hH] at hc
  have hE' := Lib.hid hE
  have p0 := hP1.cell 0
  have p1 := hP1.cell 1
  have p2 := hP1.cell 2
  have p3 := hP1.cell 3
  have p4 := hP1.cell 4
  simp at p0 p1 p2 p3 p4
  have hw1' := Lib.hid hw1
  have hPs := hP1.inside
  have hNl' := Lib.hid hNl
  clear hL hT hNt0 ht0 hl hnum hE hFr hl0 hw1 hH hNl
  go_enter Try.func19, Try.ntmps19
  go_upto_region 1 with fail
  rw [hw1'.out]
  go_wp2_with fail
  refine hc.mono ?_
  clear hc p0 p1 p2 p3 p4
  rintro e w2 ⟨⟨u, rfl, hu, _⟩, hb1⟩
  have hP2 := Lib.hid (hP1.keep hb1 hP1.inside)
  have hB := Lib.hid (hb0.trans (hb1.mono hb0.size))
  have hP2s : w.heap.size < w2.heap.size := hP2.out.inside
  clear hb1 hb0 hP1 hu
  cases he0 : (E == 0)
  · have he1 : (E != 0) = true := by simpa using he0
    have r := Lib.hid (push_no (v := v) (l := l) (t := t) (i := i) (by_ := by_) (by rw [hE'.out]; simpa using he0))
    have r1 : Hid (pushE v l t i by_ = E) := Lib.hid (by rw [r.out.1, hE'.out])
    go_wp2
    refine bodyPost_ret (v := .tuple #[.slice none 0 0, .int .i64 0, .int .i64 E]) (by simp [results, Try.results19, go_sem]) rfl ?_
    exact ⟨⟨_, by rw [r1.out, r.out.2.2], by rw [r.out.2.1]; exact RowB.nil _ _ _⟩, hB.out⟩
  have he1 : (E != 0) = false := by simpa using he0
  obtain rfl : E = 0 := by simpa using he0
  have hbad : Hid (badP l i by_ = true → pushE v l t i by_ = 2 ∧ pushT v l t i by_ = [] ∧ pushH v l t i by_ = 0) := Lib.hid (fun h => push_arg hE'.out h)
  have hlen : l.length = Nl := hNl'.out.out
  by_cases hi0 : i < 0
  · have r := Lib.hid (hbad.out (by simp [badP, hi0]))
    clear hlen
    go_wp2
    refine bodyPost_ret (v := .tuple #[.slice none 0 0, .int .i64 0, .int .i64 2]) (by simp [results, Try.results19, go_sem]) rfl ?_
    exact ⟨⟨_, by rw [r.out.1, r.out.2.2], by rw [r.out.2.1]; exact RowB.nil _ _ _⟩, hB.out⟩
  by_cases hi1 : (Nl : Int) ≤ i
  · have r := Lib.hid (hbad.out (by rw [← hlen] at hi1; simp [badP, hi1]))
    clear hlen
    go_wp2
    refine bodyPost_ret (v := .tuple #[.slice none 0 0, .int .i64 0, .int .i64 2]) (by simp [results, Try.results19, go_sem]) rfl ?_
    exact ⟨⟨_, by rw [r.out.1, r.out.2.2], by rw [r.out.2.1]; exact RowB.nil _ _ _⟩, hB.out⟩
  by_cases hb0 : by_ < 0
  · have r := Lib.hid (hbad.out (by simp [badP, hb0]))
    clear hlen
    go_wp2
    refine bodyPost_ret (v := .tuple #[.slice none 0 0, .int .i64 0, .int .i64 2]) (by simp [results, Try.results19, go_sem]) rfl ?_
    exact ⟨⟨_, by rw [r.out.1, r.out.2.2], by rw [r.out.2.1]; exact RowB.nil _ _ _⟩, hB.out⟩
  by_cases hb2 : 1048576 < by_
  · have r := Lib.hid (hbad.out (by simp [badP, hb2]))
    clear hlen
    go_wp2
    refine bodyPost_ret (v := .tuple #[.slice none 0 0, .int .i64 0, .int .i64 2]) (by simp [results, Try.results19, go_sem]) rfl ?_
    exact ⟨⟨_, by rw [r.out.1, r.out.2.2], by rw [r.out.2.1]; exact RowB.nil _ _ _⟩, hB.out⟩
  have hgood := Lib.hid (push_as (v := v) (l := l) (t := t) (i := i) (by_ := by_) hE'.out (by simp [badP, hlen]; omega))
  have hc := hFr'.out i by_ (by omega) w2 hB.out
  rw [← hgood.out.1, ← hgood.out.2.1, ← hgood.out.2.2] at hc
  have q0 := hP2.out.cell 0
  have q1 := hP2.out.cell 1
  have q2 := hP2.out.cell 2
  have q3 := hP2.out.cell 3
  have q4 := hP2.out.cell 4
  simp at q0 q1 q2 q3 q4
  obtain ⟨E2, hE2⟩ : ∃ E, pushE v l t i by_ = E := ⟨_, rfl⟩
  obtain ⟨H2, hH2⟩ : ∃ E, pushH v l t i by_ = E := ⟨_, rfl⟩
  rw [hE2, hH2] at hc
  have hE2' := Lib.hid hE2
  have hH2' := Lib.hid hH2
  clear hlen hE2 hH2
  go_wp2_with fail
  refine hc.mono ?_
  clear hc q0 q1 q2 q3 q4
  rintro e w3 ⟨⟨u3, rfl, hu3, _⟩, hb3⟩
  have hB3 := Lib.hid (hB.out.trans (hb3.mono hB.out.size))
  have hu3' := Lib.hid hu3
  clear hb3 hu3
  go_wp2
  refine bodyPost_ret (v := .tuple #[u3, .int .i64 H2, .int .i64 E2]) (by simp [results, Try.results19, go_sem]) rfl ?_
  exact ⟨⟨_, by rw [hH2'.out, hE2'.out], hu3'.out⟩, hB3.out⟩

end Go.Proofs.Ytfoflfeaegfnnaa.Slack

import Derived.Test.YtfoflfeaegfnnaaPkSlackLatest2
import Derived.Test.YtfoflfeaegfnnaaPkWhenTimes

/-
  Contracts of package slack's Latest and Float.
-/
namespace Go.Proofs.Ytfoflfeaegfnnaa.Slack
open Go.RowKit Go.Sort Go.Proofs.Ytfoflfeaegfnnaa.Mem Go.Proofs.Ytfoflfeaegfnnaa.Route Go.Proofs.Ytfoflfeaegfnnaa.When Go.Proofs.Ytfoflfeaegfnnaa.Tail
set_option linter.unusedVariables false

/-- What is known where Times has no error. -/
theorem late_facts {v : Vh} {l : List (Int × Int)} {t : List Rq} (h : errT v l t = 0) :
    AllIn t l ∧ (∀ j, j ≤ l.length → 0 ≤ hdL v.en (latK v t l j) ∧ hdL v.en (latK v t l j) ≤ 1048576) ∧ (∀ k, k < l.length → 0 ≤ (visN v t l k).sv ∧ (visN v t l k).sv ≤ 1000) := by
  have hf := fine0_of (errT_zero.1 h).1
  refine ⟨hf.vis, fun j _ => lat_bd h _, fun k hk => ?_⟩
  rw [visN_at (List.getElem?_eq_getElem hk)]
  exact vis_sv hf.req _

/-- The whole of a row of numbers lies in a block. -/
def IntsAt (W : World) (p : Nat) (ns : List Int) : Prop := At W p 3 (ns.map (Value.int .i64)).toArray
theorem IntsAt.ints {W : World} {p : Nat} {ns : List Int} (h : IntsAt W p ns) (hm : ns.length ≤ maxLen) : Ints W.heap.size W (.slice (some ⟨p, 0, none⟩) ns.length ns.length) ns := by
  refine ⟨some ⟨p, 0, none⟩, ns.length, by simp, by simp, hm, (fun e => by cases e), fun j r hj => ⟨p, 0, rfl, h.inside, fun k u hk => ?_⟩⟩
  rw [List.getElem?_map] at hj
  obtain ⟨x, hx, rfl⟩ := Option.map_eq_some_iff.1 hj
  simp only [inV] at hk
  have hk0 : k = 0 := by
    have := (List.getElem?_eq_some_iff.1 hk).1
    simp at this
    exact this
  subst hk0
  simp at hk
  subst hk
  rw [h.cell]
  simp [hx]
theorem IntsAt.set {W : World} {p : Nat} {ns : List Int} (h : IntsAt W p ns) (k : Nat) (x : Int) : IntsAt (W.setCell ⟨p, k, none⟩ (.int .i64 x)) p (ns.set k x) := by
  have h1 := h.put k (.int .i64 x)
  have e : (ns.map (Value.int .i64)).toArray.setIfInBounds k (.int .i64 x) = ((ns.set k x).map (Value.int .i64)).toArray := by
    rw [List.map_set]
    simp
  rw [e] at h1
  exact h1
theorem IntsAt.get {W : World} {p : Nat} {ns : List Int} (h : IntsAt W p ns) {k : Nat} {x : Int} (hk : ns[k]? = some x) : W.cell? ⟨p, k, none⟩ = some (.int .i64 x) := by
  rw [h.cell]
  simp [hk]

set_option maxRecDepth 100000 in
set_option maxHeartbeats 2000000 in
theorem Latest_all (v : Vh) (vl vt : Value) (l : List (Int × Int)) (t : List Rq) (hl : l.length ≤ 1000000) (hnum : Nums l) (w : World) (hL : Row w.heap.size w vl l) (hT : Rqs w.heap.size w vt t) :
    Calls Try.prog 13 #[.agg #[.int .i64 v.hx, .int .i64 v.hy, .int .i64 v.cp, .int .i64 v.st, .int .i64 v.en], vl, vt] w fun e w' =>
      (∃ u, e = .returned (.tuple #[u, .int .i64 (errT v l t)]) ∧ Ints w'.heap.size w' u (latestV v l t) ∧ (errT v l t ≠ 0 → u = .slice none 0 0)) ∧ Below w.heap.size w w' := by
  obtain ⟨w1, hw1⟩ : ∃ w1, w.alloc (.cells #[.int .i64 v.hx, .int .i64 v.hy, .int .i64 v.cp, .int .i64 v.st, .int .i64 v.en] 31) = w1 := ⟨_, rfl⟩
  have hP1 := At.new w 31 #[.int .i64 v.hx, .int .i64 v.hy, .int .i64 v.cp, .int .i64 v.st, .int .i64 v.en]
  rw [hw1] at hP1
  have hb0 : Below w.heap.size w w1 := by rw [← hw1]; exact (Below.refl _ _).alloc (Nat.le_refl _) _
  have hc := Times_all v vl vt l t hl hnum w1 (hL.on hb0) (hT.on hb0)
  have hLt := fun (h : errT v l t = 0) => latest_any v vl vt l t hl (late_facts h).1 (late_facts h).2.1 (late_facts h).2.2
  have hl' := Lib.hid hl
  obtain ⟨xl, Nl, capl, rfl, hNl, hl0, hlc1, hlc2⟩ := hL.opened
  obtain ⟨xt, Nt, capt, rfl, hNt0, htc1, htc2, ht0⟩ := hT.opened
  have hL' := Lib.hid hL
  have hT' := Lib.hid hT
  have hLt' := Lib.hid hLt
  obtain ⟨E, hE⟩ : ∃ E, errT v l t = E := ⟨_, rfl⟩
  rw [hE] at hc ⊢
  have hE' := Lib.hid hE
  have p0 := hP1.cell 0
  have p1 := hP1.cell 1
  have p2 := hP1.cell 2
  have p3 := hP1.cell 3
  have p4 := hP1.cell 4
  simp at p0 p1 p2 p3 p4
  have hw1' := Lib.hid hw1
  have hPs := hP1.inside
  clear hL hT hNt0 ht0 hl hnum hE hLt hl0 hNl hw1
  go_enter Try.func13, Try.ntmps13
  go_upto_region 1 with fail
  rw [hw1'.out]
  go_wp2_with fail
  refine hc.mono ?_
  clear hc p0 p1 p2 p3 p4
  rintro e w2 ⟨⟨u, rfl, hu, _⟩, hb1⟩
  have hP2 := hP1.keep hb1 hP1.inside
  have hB := hb0.trans (hb1.mono hb0.size)
  obtain ⟨xu, Nu, capu, rfl, _⟩ := hu.opened
  clear hb1 hb0 hP1 hu
  cases he0 : (E == 0)
  · have he1 : (E != 0) = true := by simpa using he0
    have hw : Hid (latestV v l t = []) := Lib.hid (by
      unfold latestV
      rw [if_neg (by rw [hE'.out]; simpa using he0)])
    go_wp2
    refine bodyPost_ret (v := .tuple #[.slice none 0 0, .int .i64 E]) (by simp [results, Try.results13, go_sem]) rfl ?_
    exact ⟨⟨_, rfl, by rw [hw.out]; exact RowB.nil _ _ _, fun _ => rfl⟩, hB⟩
  · have he1 : (E != 0) = false := by simpa using he0
    obtain rfl : E = 0 := by simpa using he0
    have hlat := hLt'.out hE'.out w2 (hL'.out.on hB) (hT'.out.on hB)
    have p0 := hP2.cell 0
    have p1 := hP2.cell 1
    have p2 := hP2.cell 2
    have p3 := hP2.cell 3
    have p4 := hP2.cell 4
    simp at p0 p1 p2 p3 p4
    have hPs2 := hP2.inside
    clear hP2
    go_wp2_with fail
    refine hlat.mono ?_
    clear hlat p0 p1 p2 p3 p4
    rintro e w3 ⟨⟨p, hp, rfl, hA⟩, hb3⟩
    have hv : Hid (latestV v l t = latL (homeV v) v.en (visL t l)) := Lib.hid (by unfold latestV; rw [if_pos hE'.out])
    have hB3 := hB.trans (hb3.mono hB.size)
    have hA' := Lib.hid hA
    obtain ⟨Nx, hNx⟩ : ∃ N, l.length = N := ⟨_, rfl⟩
    have hNx' := Lib.hid hNx
    simp only [hNx]
    clear hA hb3 hp hNx
    go_wp2
    refine bodyPost_ret (v := .tuple #[.slice (some ⟨p, 0, none⟩) Nx Nx, .int .i64 0]) (by simp [results, Try.results13, go_sem]) rfl ?_
    refine ⟨⟨_, rfl, ?_, fun h => absurd rfl h⟩, hB3⟩
    have hi := IntsAt.ints (p := p) hA'.out (by rw [latL_length]; simp only [visL, List.length_map]; have := hl'.out; unfold maxLen; omega)
    rw [latL_length] at hi
    simp only [visL, List.length_map] at hi
    rw [hNx'.out] at hi
    rw [hv.out]
    exact hi

end Go.Proofs.Ytfoflfeaegfnnaa.Slack

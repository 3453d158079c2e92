import Derived.Test.YtfoflfeaegfnnaaPkSlackPush
import Derived.ArgAppend

/-
  The contract of package slack's Push.
-/
namespace Go.Proofs.Ytfoflfeaegfnnaa.Slack
open Go.RowKit Go.Sort Go.Proofs.Ytfoflfeaegfnnaa.Mem Go.Proofs.Ytfoflfeaegfnnaa.Route Go.Proofs.Ytfoflfeaegfnnaa.When Go.Proofs.Ytfoflfeaegfnnaa.Tail
set_option linter.unusedVariables false

theorem tms_flat {B : Nat} {W : World} {b : Addr} {N cap : Nat} {l : List Tm} (h : Tms B W (.slice (some b) N cap) l) : ∀ j u, (flatT l)[j]? = some u → W.cell? (b.add j) = some u := by
  intro j u hj
  obtain ⟨i, k, r, e, hr, hu⟩ := flat_of (m := 3) (by decide) (fun r hr => by obtain ⟨s, _, rfl⟩ := List.mem_map.1 hr; rfl) j u hj
  obtain ⟨g, o, hx, hg, hc⟩ := RowB.row h hr
  cases hx
  have := hc k u hu
  rw [add_at, e, show o + (i * 3 + k) = o + i * 3 + k by omega]
  exact this

theorem own_some {W : World} {base size n c : Nat} {e : TypeId} {x : Option Addr} {xs : List Value} (h : W.ownsRow base e size (.slice x n c) n xs) (hn : 0 < n) : ∃ g : Nat, x = some ⟨g, 0, none⟩ := by
  rcases h.2 with ⟨_, h0⟩ | ⟨k, cap, cur, h1, _⟩
  · omega
  · cases h1; exact ⟨_, rfl⟩
theorem push_no {v : Vh} {l : List (Int × Int)} {t : List Rq} {i by_ : Int} (h : errT v l t ≠ 0) : pushE v l t i by_ = errT v l t ∧ pushT v l t i by_ = [] ∧ pushH v l t i by_ = 0 := by
  have e : pushE v l t i by_ = errT v l t := by unfold pushE; rw [if_pos h]
  exact ⟨e, by unfold pushT; rw [e, if_neg h], by unfold pushH; rw [e, if_neg h]⟩
theorem push_arg {v : Vh} {l : List (Int × Int)} {t : List Rq} {i by_ : Int} (h : errT v l t = 0) (hb : badP l i by_ = true) : pushE v l t i by_ = 2 ∧ pushT v l t i by_ = [] ∧ pushH v l t i by_ = 0 := by
  have e : pushE v l t i by_ = 2 := by unfold pushE; rw [if_neg (by omega), if_pos hb]
  exact ⟨e, by unfold pushT; rw [e]; rfl, by unfold pushH; rw [e]; rfl⟩
theorem push_good {v : Vh} {l : List (Int × Int)} {t : List Rq} {i by_ : Int} (h : errT v l t = 0) (hb : badP l i by_ = false) : pushE v l t i by_ = (if fromB v l t i by_ then 0 else 9) ∧ pushT v l t i by_ = (if fromB v l t i by_ then rowB (sp0 v) (pairs (visL t l) i by_) else []) ∧ pushH v l t i by_ = (if fromB v l t i by_ then arV (endB (sp0 v) (pairs (visL t l) i by_)) (homeV v) else 0) := by
  have hw := (errT_zero.1 h).1
  have e : pushE v l t i by_ = (if fromB v l t i by_ then 0 else 9) := by unfold pushE; rw [if_neg (by omega), hb, fromE_ok hw]; rfl
  unfold pushT pushH fromT fromH
  rw [e, fromE_ok hw]
  cases fromB v l t i by_ <;> simp

set_option maxRecDepth 100000 in
set_option maxHeartbeats 4000000 in
theorem Push_new (v : Vh) (vl vt : Value) (l : List (Int × Int)) (t : List Rq) (hl : l.length ≤ 1000000) (hnum : Nums l) (i by_ : Int) (w : World) (hL : Row w.heap.size w vl l) (hT : Rqs w.heap.size w vt t) :
    Calls Try.prog 12 #[.agg #[.int .i64 v.hx, .int .i64 v.hy, .int .i64 v.cp, .int .i64 v.st, .int .i64 v.en], vl, vt, .int .i64 i, .int .i64 by_] w fun e w' =>
      (∃ u, e = .returned (.tuple #[u, .int .i64 (pushH v l t i by_), .int .i64 (pushE v l t i by_)]) ∧ Tms w'.heap.size w' u (pushT v l t i by_) ∧ (pushE v l t i by_ ≠ 0 → u = .slice none 0 0) ∧ NewB w.heap.size u) ∧ Below w.heap.size w w' := by
  obtain ⟨it, hit, ht0, ht1, ht2⟩ := info_parts info_time
  obtain ⟨w1, hw1⟩ : ∃ w1, w.alloc (.cells #[.int .i64 v.hx, .int .i64 v.hy, .int .i64 v.cp, .int .i64 v.st, .int .i64 v.en] 31) = w1 := ⟨_, rfl⟩
  have hP1 := At.new w 31 #[.int .i64 v.hx, .int .i64 v.hy, .int .i64 v.cp, .int .i64 v.st, .int .i64 v.en]
  rw [hw1] at hP1
  have hb0 : Below w.heap.size w w1 := by rw [← hw1]; exact (Below.refl _ _).alloc (Nat.le_refl _) _
  have hc := Times_cap v vl vt l t hl hnum w1 (hL.on hb0) (hT.on hb0)
  have hl' := Lib.hid hl
  obtain ⟨xl, Nl, Cl, rfl, hNl, hl0, hlc1, hlc2⟩ := hL.opened
  obtain ⟨xt, Nt, Ct, rfl, hNt0, htc1, htc2, htn⟩ := hT.opened
  unfold maxLen at hlc2
  have hL' := Lib.hid hL
  have hT' := Lib.hid hT
  have hNl' := Lib.hid hNl
  obtain ⟨E, hE⟩ : ∃ E, errT v l t = E := ⟨_, rfl⟩
  obtain ⟨H, hH⟩ : ∃ H, homeT v l t = H := ⟨_, rfl⟩
  rw [hE, hH] at hc
  have hE' := Lib.hid hE
  have hH' := Lib.hid hH
  have p0 := hP1.cell 0
  have p1 := hP1.cell 1
  have p2 := hP1.cell 2
  have p3 := hP1.cell 3
  have p4 := hP1.cell 4
  simp at p0 p1 p2 p3 p4
  have hw1' := Lib.hid hw1
  have hPs := hP1.inside
  clear hL hT hNt0 htn hl hnum hE hH hl0 hNl hw1
  go_enter Try.func12, Try.ntmps12
  go_upto_region 1 with fail
  rw [hw1'.out]
  go_wp2_with fail
  refine hc.mono ?_
  clear hc p0 p1 p2 p3 p4
  rintro e w2 ⟨⟨u, rfl, hu, _, hcap⟩, hb1⟩
  have hP2 := hP1.keep hb1 hP1.inside
  have hB := hb0.trans (hb1.mono hb0.size)
  obtain ⟨xu, Nu, capu, rfl, hNu, hu1, hu2, hun⟩ := hu.opened
  have hun' := Lib.hid hun
  have hu' := Lib.hid hu
  have hNu' := Lib.hid hNu
  have hcap' := Lib.hid hcap
  have hB' := Lib.hid hB
  clear hb1 hb0 hP1 hu hNu hcap hB hun
  cases he0 : (E == 0)
  · have he1 : (E != 0) = true := by simpa using he0
    obtain ⟨r1, r2, r3⟩ := push_no (v := v) (l := l) (t := t) (i := i) (by_ := by_) (by rw [hE'.out]; simpa using he0)
    rw [hE'.out] at r1
    have r1' := Lib.hid r1
    have r2' := Lib.hid r2
    have r3' := Lib.hid r3
    clear r1 r2 r3
    go_wp2
    refine bodyPost_ret (v := .tuple #[.slice none 0 0, .int .i64 0, .int .i64 E]) (by simp [results, Try.results12, go_sem]) rfl ?_
    exact ⟨⟨_, by rw [r1'.out, r3'.out], by rw [r2'.out]; exact RowB.nil _ _ _, fun _ => rfl, NewB.nil _⟩, hB'.out⟩
  · have he1 : (E != 0) = false := by simpa using he0
    obtain rfl : E = 0 := by simpa using he0
    have hbad : Hid (badP l i by_ = true → pushE v l t i by_ = 2 ∧ pushT v l t i by_ = [] ∧ pushH v l t i by_ = 0) := Lib.hid (fun h => push_arg hE'.out h)
    have hlen : l.length = Nl := hNl'.out
    by_cases hi0 : i < 0
    · have r := Lib.hid (hbad.out (by simp [badP, hi0]))
      clear hlen
      go_wp2
      refine bodyPost_ret (v := .tuple #[.slice none 0 0, .int .i64 0, .int .i64 2]) (by simp [results, Try.results12, go_sem]) rfl ?_
      exact ⟨⟨_, by rw [r.out.1, r.out.2.2], by rw [r.out.2.1]; exact RowB.nil _ _ _, fun _ => rfl, NewB.nil _⟩, hB'.out⟩
    by_cases hi1 : (Nl : Int) ≤ i
    · have r := Lib.hid (hbad.out (by rw [← hlen] at hi1; simp [badP, hi1]))
      clear hlen
      go_wp2
      refine bodyPost_ret (v := .tuple #[.slice none 0 0, .int .i64 0, .int .i64 2]) (by simp [results, Try.results12, go_sem]) rfl ?_
      exact ⟨⟨_, by rw [r.out.1, r.out.2.2], by rw [r.out.2.1]; exact RowB.nil _ _ _, fun _ => rfl, NewB.nil _⟩, hB'.out⟩
    by_cases hb0 : by_ < 0
    · have r := Lib.hid (hbad.out (by simp [badP, hb0]))
      clear hlen
      go_wp2
      refine bodyPost_ret (v := .tuple #[.slice none 0 0, .int .i64 0, .int .i64 2]) (by simp [results, Try.results12, go_sem]) rfl ?_
      exact ⟨⟨_, by rw [r.out.1, r.out.2.2], by rw [r.out.2.1]; exact RowB.nil _ _ _, fun _ => rfl, NewB.nil _⟩, hB'.out⟩
    by_cases hb2 : 1048576 < by_
    · have r := Lib.hid (hbad.out (by simp [badP, hb2]))
      clear hlen
      go_wp2
      refine bodyPost_ret (v := .tuple #[.slice none 0 0, .int .i64 0, .int .i64 2]) (by simp [results, Try.results12, go_sem]) rfl ?_
      exact ⟨⟨_, by rw [r.out.1, r.out.2.2], by rw [r.out.2.1]; exact RowB.nil _ _ _, fun _ => rfl, NewB.nil _⟩, hB'.out⟩
    have hgood := push_good (v := v) (l := l) (t := t) (i := i) (by_ := by_) hE'.out (by simp [badP, hlen]; omega)
    obtain ⟨j, rfl⟩ : ∃ j : Nat, i = j := ⟨i.toNat, by omega⟩
    have hjN : j < l.length := by omega
    obtain ⟨x0, hx0⟩ := hcap'.out rfl
    simp only [Value.slice.injEq] at hx0
    obtain ⟨rfl, hNu2, hcu2⟩ := hx0
    rw [hlen] at hNu2 hcu2
    subst hNu2
    subst hcu2
    obtain ⟨b, rfl⟩ : ∃ b, xu = some b := by
      cases xu with
      | none =>
        have h1 := hun'.out rfl
        have h2 := hNu'.out
        rw [h1] at h2
        simp at h2
        omega
      | some b => exact ⟨b, rfl⟩
    have hjI : ¬ ((capu : Int) ≤ (j : Int)) := hi1
    have hjI2 : ((j : Int) < (capu : Int)) := by omega
    have hflat := tms_flat hu'.out
    have hc1 : capu ≤ 1000000 := by rw [← hlen]; exact hl'.out
    have hbw : b.block < w2.heap.size := by
      have h1 : 0 < (timesL v l t).length := by rw [hNu'.out]; omega
      obtain ⟨g0, o0, e0, hg0, _⟩ := Tms.at hu'.out (k := 0) (q := (timesL v l t)[0]) (List.getElem?_eq_getElem h1)
      cases e0
      exact hg0
    have hflat3 : Hid (∀ (o : Obj) j u, (flatT (timesL v l t))[j]? = some u → (w2.alloc o).cell? (b.add j) = some u) := Lib.hid (fun o j u hj => by
      have h2 := (Below.refl w2.heap.size w2).alloc (Nat.le_refl _) o
      have h3 : (b.add j).block = b.block := by unfold Addr.add; split <;> rfl
      rw [h2.cell (p := b.add j) (by rw [h3]; exact hbw)]
      exact hflat j u hj)
    have hgood' := Lib.hid hgood
    have hlen' := Lib.hid hlen
    have htl : (flatT (timesL v l t)).length = capu * 3 := by rw [flatT_length, hNu'.out]
    have htl' := Lib.hid htl
    clear hflat hun' hcap' hbad hgood hlen hi1 htl
    go_upto_region 7 with (at_builtin; refine wpList_append_grows _ rfl _ _ 46 rfl 55 it (.agg #[.int .i64 0, .int .i64 0, .int .i64 0]) 3 24 Try.underlying46 hit ht0 ht1 ht2 rfl (by decide) (some b) capu capu (flatT (timesL v l t)) rfl (fun e => by cases e) htl'.out (fun b' e => by cases e; exact hflat3.out _) ⟨w2.heap.size, 0, none⟩ 1 1 [.int .i64 H, .int .i64 0, .int .i64 0] rfl rfl (World.news_of_block (cs := #[.int .i64 H, .int .i64 0, .int .i64 0]) (t := 55) (fr := (0, 0)) (heap_alloc_new w2 _)) (by simp [Value.oneCell']) (by omega) (by unfold maxLen; omega) (by omega) ?_; intro v7 w4 hown7 hgrow7; obtain ⟨x7, c7, rfl, _, _⟩ := owns_slice hown7)
    obtain ⟨g, rfl⟩ := own_some hown7 (by omega)
    have hb24 : Below w2.heap.size w2 w4 := ((Below.refl _ _).alloc (Nat.le_refl _) _).trans ((gBelow hgrow7).mono (by simp))
    have hsz2 := hB'.out.size
    have hOwn4 : Own w4 w.heap.size g (capu + 1) c7 (T0 v l t) := by
      unfold Own T0
      rw [flatT_append, hH'.out]
      exact owns_more hown7 (by simp; omega)
    have hP4 := hP2.keep hb24 hP2.inside
    have hB4 := hB'.out.trans (hb24.mono hsz2)
    obtain ⟨m, hm⟩ : ∃ m, w4.heap.size = m := ⟨_, rfl⟩
    obtain ⟨w5, hw5⟩ : ∃ w5, w4.alloc (.cells #[.int .i64 v.hx, .int .i64 v.hy, .int .i64 v.cp, .int .i64 v.st, .int .i64 v.en, .slice xl capu Cl, .slice xt Nt Ct] 76) = w5 := ⟨_, rfl⟩
    have hb45 : Below w4.heap.size w4 w5 := by rw [← hw5]; exact (Below.refl _ _).alloc (Nat.le_refl _) _
    have hX5 : At w5 m 76 #[.int .i64 v.hx, .int .i64 v.hy, .int .i64 v.cp, .int .i64 v.st, .int .i64 v.en, .slice xl capu Cl, .slice xt Nt Ct] := by rw [← hw5]; exact At.new_ _ _ _ hm.symm
    have hOwn5 := hOwn4.keep hb45
    have hB5 := hB4.trans (hb45.mono hB4.size)
    have hpu := push_any v xl xt capu Cl Nt Ct l t hE'.out hl'.out j hjN by_ (by omega) (capu + 1) c7 w.heap.size g (by rw [hlen'.out]) w5 (hL'.out.keep hB5 (Nat.le_refl _)) (hT'.out.keep hB5 (Nat.le_refl _)) hOwn5
    have p0 := hP4.cell 0
    have p1 := hP4.cell 1
    have p2 := hP4.cell 2
    have p3 := hP4.cell 3
    have p4 := hP4.cell 4
    simp at p0 p1 p2 p3 p4
    have hPi := hP4.inside
    have hw5' := Lib.hid hw5
    have hm' := Lib.hid hm
    have hB5' := Lib.hid hB5
    have hgB : w.heap.size ≤ g := hOwn4.block.1
    clear hown7 hgrow7 hb24 hOwn4 hP4 hP2 hB4 hw5 hm hb45 hOwn5 hB5 hflat3
    go_upto_region 8 with fail
    simp only [hm'.out]
    rw [hw5'.out]
    clear p0 p1 p2 p3 p4
    have y0 := hX5.cell 0
    have y1 := hX5.cell 1
    have y2 := hX5.cell 2
    have y3 := hX5.cell 3
    have y4 := hX5.cell 4
    have y5 := hX5.cell 5
    have y6 := hX5.cell 6
    simp at y0 y1 y2 y3 y4 y5 y6
    have hXi := hX5.inside
    clear hX5
    go_wp2_with fail
    refine hpu.mono ?_
    clear hpu y0 y1 y2 y3 y4 y5 y6
    rintro e w6 ⟨rfl, hg6, hP6⟩
    have hB6 : Hid (Below w.heap.size w w6) := Lib.hid (hB5'.out.grown hg6 hB5'.out.size (fun r e => by cases e; exact hgB))
    obtain ⟨r1, r2, r3⟩ := hgood'.out
    have hP6' := Lib.hid hP6
    have r1' := Lib.hid r1
    have r2' := Lib.hid r2
    have r3' := Lib.hid r3
    clear hg6 hP6 r1 r2 r3 hgood'
    cases hfb : fromB v l t j by_
    · rw [hfb] at r1' r2' r3'
      have r1 := r1'.out
      have r2 := r2'.out
      have r3 := r3'.out
      have rr := Lib.hid (And.intro r1 (And.intro r2 r3))
      clear r1 r2 r3 r1' r2' r3' hP6' hfb
      go_wp2
      refine bodyPost_ret (v := .tuple #[.slice none 0 0, .int .i64 0, .int .i64 9]) (by simp [results, Try.results12, go_sem]) rfl ?_
      exact ⟨⟨_, by rw [rr.out.1, rr.out.2.2]; rfl, by rw [rr.out.2.1]; exact RowB.nil _ _ _, fun _ => rfl, NewB.nil _⟩, hB6.out⟩
    · obtain ⟨rows, hOwn6, htk, q, hq, hqa⟩ := hP6'.out hfb
      rw [hfb] at r1' r2' r3'
      have r1 := r1'.out
      have r2 := r2'.out
      have r3 := r3'.out
      have c0 := hOwn6.get hq (j := 0) rfl
      rw [Nat.add_zero, hlen'.out] at c0
      have hfin : Tms w6.heap.size w6 (.slice (some ⟨g, 0, none⟩) capu capu) (rowB (sp0 v) (pairs (visL t l) j by_)) := by
        have h1 := When.cutTo (k := capu) hOwn6.tms (by rw [List.length_map]; exact hOwn6.len) (Nat.le_succ _) capu (Nat.le_refl _) (by unfold maxLen; omega) (fun h => by cases h)
        rw [← List.map_take] at h1
        rw [hlen'.out] at htk
        rw [htk] at h1
        exact h1
      have hcc := hOwn6.cap
      have hcI : ((capu : Int) < ((capu + 1 : Nat) : Int)) := by omega
      obtain ⟨A, hA⟩ : ∃ A, q.ar = A := ⟨_, rfl⟩
      rw [hA] at c0
      have rr : Hid (pushE v l t j by_ = 0 ∧ pushH v l t j by_ = A ∧ Tms w6.heap.size w6 (.slice (some ⟨g, 0, none⟩) capu capu) (pushT v l t j by_)) := Lib.hid ⟨by rw [r1]; rfl, by rw [r3, ← hA, hqa]; rfl, by rw [r2]; exact hfin⟩
      clear r1 r2 r3 r1' r2' r3' hP6' hfb htk hq hqa hfin hA hOwn6
      unfold maxLen at hcc
      go_wp2_with fail
      go_quiet (fail)
      go_wp2
      refine bodyPost_ret (v := .tuple #[.slice (some ⟨g, 0, none⟩) capu capu, .int .i64 A, .int .i64 0]) (by simp [results, Try.results12, go_sem]) rfl ?_
      have hB9 := Place.below_drewN hB6.out nq
      exact ⟨⟨_, by rw [rr.out.1, rr.out.2.1], rr.out.2.2, fun h => absurd rr.out.1 h, fun r e => by cases e; exact hgB⟩, hB9⟩

theorem Push_all (v : Vh) (vl vt : Value) (l : List (Int × Int)) (t : List Rq) (hl : l.length ≤ 1000000) (hnum : Nums l) (i by_ : Int) (w : World) (hL : Row w.heap.size w vl l) (hT : Rqs w.heap.size w vt t) :
    Calls Try.prog 12 #[.agg #[.int .i64 v.hx, .int .i64 v.hy, .int .i64 v.cp, .int .i64 v.st, .int .i64 v.en], vl, vt, .int .i64 i, .int .i64 by_] w fun e w' =>
      (∃ u, e = .returned (.tuple #[u, .int .i64 (pushH v l t i by_), .int .i64 (pushE v l t i by_)]) ∧ Tms w'.heap.size w' u (pushT v l t i by_) ∧ (pushE v l t i by_ ≠ 0 → u = .slice none 0 0)) ∧ Below w.heap.size w w' :=
  (Push_new v vl vt l t hl hnum i by_ w hL hT).mono fun e w' ⟨⟨u, h1, h2, h3, _⟩, h4⟩ => ⟨⟨u, h1, h2, h3⟩, h4⟩

end Go.Proofs.Ytfoflfeaegfnnaa.Slack

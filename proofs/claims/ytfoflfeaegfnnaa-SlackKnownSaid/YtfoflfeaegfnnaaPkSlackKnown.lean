import Derived.Test.YtfoflfeaegfnnaaPkSlackWorks
import Derived.Test.YtfoflfeaegfnnaaPkSchedIn

/-
  SlackKnown returns true, whatever memory is: call by call.
-/
namespace Go.Proofs.Ytfoflfeaegfnnaa.Slack
open Go.RowKit Go.Sort Go.Proofs.Ytfoflfeaegfnnaa.Mem Go.Proofs.Ytfoflfeaegfnnaa.Route Go.Proofs.Ytfoflfeaegfnnaa.When Go.Proofs.Ytfoflfeaegfnnaa.Tail Go.Proofs.Ytfoflfeaegfnnaa.Feas
set_option linter.unusedVariables false

theorem row_cut {W : World} {g : Nat} {t : TypeId} {cs : Array Value} {l : List (Int × Int)} (h : At W g t cs) (hcs : cs.toList = flatS l) {k c : Nat} (hk : k ≤ l.length) (hc : k ≤ c) (hm : c ≤ maxLen) : Row W.heap.size W (.slice (some ⟨g, 0, none⟩) k c) (l.take k) := by
  have h1 := RowB.of_at (B := W.heap.size) (m := 2) (cap := c) (rows := (l.take k).map stV) h h.inside (fun r hr => by obtain ⟨s, _, rfl⟩ := List.mem_map.1 hr; rfl)
    (fun i u hu => by
      have e : flatS l = ((l.take k).map stV).flatten ++ ((l.drop k).map stV).flatten := by unfold flatS; rw [← List.flatten_append, ← List.map_append, List.take_append_drop]
      have : cs.toList[i]? = some u := by
        rw [hcs, e, List.getElem?_append_left (List.getElem?_eq_some_iff.1 hu).1]
        exact hu
      simpa using this) (by simp; omega) hm
  simp only [List.length_map, List.length_take, Nat.min_eq_left hk] at h1
  exact h1
theorem NewB.down {B C : Nat} {v : Value} (h : NewB B v) (hc : C ≤ B) : NewB C v := fun r e => Nat.le_trans hc (h r e)
theorem row_far {W : World} {v : Value} {m : Nat} {rows : List (List Value)} {q r i : Nat} {x : Value} (h : RowB W.heap.size W v m rows) (hn : NewB q v) (hr : r < q) : RowB (W.setCell ⟨r, i, none⟩ x).heap.size (W.setCell ⟨r, i, none⟩ x) v m rows := by
  obtain ⟨y, cap, rfl, h1, h2, h0, h3⟩ := h
  refine ⟨y, cap, rfl, h1, h2, h0, fun j rw_ hj => ?_⟩
  obtain ⟨g, o, rfl, hgs, hc⟩ := h3 j rw_ hj
  refine ⟨g, o, rfl, by simpa using hgs, fun k u hk => ?_⟩
  have hqg : q ≤ g := hn g rfl
  exact (World.cell?_of_block (Below.heap_setCell W ⟨r, i, none⟩ x g (by show g ≠ r; omega))).trans (hc k u hk)
theorem Latest_err (v : Vh) (vl vt : Value) (l : List (Int × Int)) (t : List Rq) (hl : l.length ≤ 1000000) (hnum : Nums l) (E : Int) (hE : errT v l t = E) (h0 : E ≠ 0) (w : World) (hL : Row w.heap.size w vl l) (hT : Rqs w.heap.size w vt t) :
    Calls Try.prog 13 #[.agg #[.int .i64 v.hx, .int .i64 v.hy, .int .i64 v.cp, .int .i64 v.st, .int .i64 v.en], vl, vt] w fun e w' => e = .returned (.tuple #[.slice none 0 0, .int .i64 E]) ∧ Below w.heap.size w w' :=
  (Latest_all v vl vt l t hl hnum w hL hT).mono fun e w' ⟨⟨u, h1, _, h3⟩, h4⟩ => ⟨by rw [h1, h3 (by rw [hE]; exact h0), hE], h4⟩
def vK0 : Vh := ⟨0, 0, 9, 0, 20⟩
def vK1 : Vh := ⟨0, 0, 9, 0, 19⟩
def q0 : Rq := ⟨0, 0, 0, 0, 0, 0, 0, 0, 0, 0⟩
theorem kn0 : errT vK0 [] [] = 0 := by decide +kernel
theorem kn1 : latestV vK0 [] [] = [] := by decide +kernel
theorem kn2 : errT vK0 lW [qW, q0] = 2 := by decide +kernel
theorem kn3 : errT vK0 lW [qW] = 0 := by decide +kernel
theorem kn4 : floatV vK0 lW [qW] = [0, 0] := by decide +kernel
theorem kn5 : pushE vK0 lW [qW] 1 0 = 0 := by decide +kernel
theorem kn6 : pushT vK0 lW [qW] 1 0 = [⟨5, 5, 6⟩, ⟨10, 10, 11⟩] := by decide +kernel
theorem kn7 : pushH vK0 lW [qW] 1 0 = 20 := by decide +kernel
theorem kn8 : pushE vK0 lW [qW] 1 1048577 = 2 := by decide +kernel
theorem kn9 : pushE vK0 lW [qW] 2 0 = 2 := by decide +kernel
theorem kn10 : pushE vK0 lW [qW] 0 (-1) = 2 := by decide +kernel
theorem kn11 : errT vK1 lW [qW] = 9 := by decide +kernel
theorem kn12 : pushE vK1 lW [qW] 9 0 = 9 := by decide +kernel
theorem kn13 : errT vK1 [(0, 0)] [qW] = 8 := by decide +kernel

set_option maxRecDepth 100000 in
set_option maxHeartbeats 8000000 in
theorem known_any (w : World) : Calls Try.prog 6 #[] w fun e w' => e = .returned (.bool true) ∧ Below w.heap.size w w' := by
  obtain ⟨q, hq⟩ : ∃ q, w.heap.size = q := ⟨_, rfl⟩
  obtain ⟨w3, hw3⟩ : ∃ w3, ((w.alloc (.cells #[.int .i64 0, .int .i64 0, .int .i64 9, .int .i64 0, .int .i64 20] 31)).alloc (.cells #[.int .i64 5, .int .i64 0, .int .i64 9, .int .i64 0, .int .i64 0, .int .i64 20, .int .i64 0, .int .i64 30, .int .i64 1, .int .i64 1, .int .i64 0, .int .i64 0, .int .i64 0, .int .i64 0, .int .i64 0, .int .i64 0, .int .i64 0, .int .i64 0, .int .i64 0, .int .i64 0] 41)).alloc (.cells #[.int .i64 0, .int .i64 0, .int .i64 0, .int .i64 1] 58) = w3 := ⟨_, rfl⟩
  have hV3 : At w3 q 31 #[.int .i64 0, .int .i64 0, .int .i64 9, .int .i64 0, .int .i64 20] := by rw [← hw3]; exact ((At.new_ _ _ _ hq.symm).alloc _).alloc _
  have hQ3 : At w3 (q + 1) 41 #[.int .i64 5, .int .i64 0, .int .i64 9, .int .i64 0, .int .i64 0, .int .i64 20, .int .i64 0, .int .i64 30, .int .i64 1, .int .i64 1, .int .i64 0, .int .i64 0, .int .i64 0, .int .i64 0, .int .i64 0, .int .i64 0, .int .i64 0, .int .i64 0, .int .i64 0, .int .i64 0] := by rw [← hw3]; exact (At.new_ _ _ _ (by simp [hq])).alloc _
  have hS3 : At w3 (q + 1 + 1) 58 #[.int .i64 0, .int .i64 0, .int .i64 0, .int .i64 1] := by rw [← hw3]; exact At.new_ _ _ _ (by simp [hq])
  have hb3 : Below w.heap.size w w3 := by rw [← hw3]; exact (((Below.refl _ _).alloc (Nat.le_refl _) _).alloc (by simp) _).alloc (by simp; omega) _
  have hw3' := Lib.hid hw3
  have hq' := Lib.hid hq
  have hwq : w.heap.size ≤ q := by omega
  clear hw3 hq
  go_enter Try.func6, Try.ntmps6
  go_upto_region 4 with fail
  first | rw [hw3'.out] | (simp only [hq'.out]; rw [hw3'.out])
  try simp only [hq'.out]
  have v0 := hV3.cell 0
  have v1 := hV3.cell 1
  have v2 := hV3.cell 2
  have v3 := hV3.cell 3
  have v4 := hV3.cell 4
  simp at v0 v1 v2 v3 v4
  have hvi := hV3.inside
  have hcl := Latest_all vK0 _ _ [] [] (by decide) (fun s hs => by cases hs) w3 (RowB.nil _ _ _) (RowB.nil _ _ _)
  have hQi3 : q + 1 ≤ w3.heap.size := Nat.le_of_lt hQ3.inside
  have hQ' := Lib.hid hQ3
  have hS' := Lib.hid hS3
  clear hQ3 hS3
  go_wp2_with fail
  refine hcl.mono ?_
  clear hcl v0 v1 v2 v3 v4 hvi
  rintro e w4 ⟨⟨ua, rfl, ha0, -⟩, hb'⟩
  rw [kn0]
  rw [kn1] at ha0
  obtain ⟨xa, Na, ca, rfl, hNa, -⟩ := ha0.opened
  obtain rfl : Na = 0 := hNa.out.symm
  clear ha0 hNa
  have hV4 := hV3.keep hb' hV3.inside
  have hQ4 := hQ'.out.keep hb' hQ'.out.inside
  have hS4 := hS'.out.keep hb' hS'.out.inside
  have hb4 := hb3.trans (hb'.mono hb3.size)
  clear hb' hV3 hb3 hQ' hS'
  have v0 := hV4.cell 0
  have v1 := hV4.cell 1
  have v2 := hV4.cell 2
  have v3 := hV4.cell 3
  have v4 := hV4.cell 4
  simp at v0 v1 v2 v3 v4
  have hvi := hV4.inside
  have hcl := Latest_all vK0 _ _ lW [qW, q0] (by decide) lW_nums w4 (row_of (l := lW) hS4 rfl (by decide)) (rqs_of (l := [qW, q0]) hQ4 rfl (k := 2) (c := 2) (by decide) (by decide) (by decide))
  have hQi4 : q + 1 ≤ w4.heap.size := Nat.le_of_lt hQ4.inside
  have hQ' := Lib.hid hQ4
  have hS' := Lib.hid hS4
  clear hQ4 hS4
  go_wp2_with fail
  refine hcl.mono ?_
  clear hcl v0 v1 v2 v3 v4 hvi
  rintro e w5 ⟨⟨ub, rfl, -, -⟩, hb'⟩
  rw [kn2]
  have hV5 := hV4.keep hb' hV4.inside
  have hQ5 := hQ'.out.keep hb' hQ'.out.inside
  have hS5 := hS'.out.keep hb' hS'.out.inside
  have hb5 := hb4.trans (hb'.mono hb4.size)
  clear hb' hV4 hb4 hQ' hS'
  have v0 := hV5.cell 0
  have v1 := hV5.cell 1
  have v2 := hV5.cell 2
  have v3 := hV5.cell 3
  have v4 := hV5.cell 4
  simp at v0 v1 v2 v3 v4
  have hvi := hV5.inside
  have hcl := Float_new vK0 _ _ lW [qW] (by decide) lW_nums w5 (row_of (l := lW) hS5 rfl (by decide)) (rqs_of (l := [qW, q0]) hQ5 rfl (k := 1) (c := 2) (by decide) (by decide) (by decide))
  have hQi5 : q + 1 ≤ w5.heap.size := Nat.le_of_lt hQ5.inside
  have hQ' := Lib.hid hQ5
  have hS' := Lib.hid hS5
  clear hQ5 hS5
  go_wp2_with fail
  refine hcl.mono ?_
  clear hcl v0 v1 v2 v3 v4 hvi
  rintro e w6 ⟨⟨uf, rfl, hf0, -, hfn0⟩, hb'⟩
  rw [kn3]
  rw [kn4] at hf0
  obtain ⟨xf, Nf, cf, rfl, hNf, -⟩ := hf0.opened
  obtain rfl : Nf = 2 := hNf.out.symm
  have hf := Lib.hid hf0
  have hfn := Lib.hid (NewB.down hfn0 (show q + 1 ≤ w5.heap.size from hQi5))
  clear hf0 hNf hfn0
  have hV6 := hV5.keep hb' hV5.inside
  have hQ6 := hQ'.out.keep hb' hQ'.out.inside
  have hS6 := hS'.out.keep hb' hS'.out.inside
  have hb6 := hb5.trans (hb'.mono hb5.size)
  clear hb' hV5 hb5 hQ' hS'
  have v0 := hV6.cell 0
  have v1 := hV6.cell 1
  have v2 := hV6.cell 2
  have v3 := hV6.cell 3
  have v4 := hV6.cell 4
  simp at v0 v1 v2 v3 v4
  have hvi := hV6.inside
  have hcl := Push_new vK0 _ _ lW [qW] (by decide) lW_nums 1 0 w6 (row_of (l := lW) hS6 rfl (by decide)) (rqs_of (l := [qW, q0]) hQ6 rfl (k := 1) (c := 2) (by decide) (by decide) (by decide))
  have hQi6 : q + 1 ≤ w6.heap.size := Nat.le_of_lt hQ6.inside
  have hQ' := Lib.hid hQ6
  have hS' := Lib.hid hS6
  clear hQ6 hS6
  go_wp2_with fail
  refine hcl.mono ?_
  clear hcl v0 v1 v2 v3 v4 hvi
  rintro e w7 ⟨⟨up, rfl, hp0, -, hpn0⟩, hb'⟩
  rw [kn5, kn7]
  rw [kn6] at hp0
  obtain ⟨xp, Np, cp, rfl, hNp, -⟩ := hp0.opened
  obtain rfl : Np = 2 := hNp.symm
  have hp := Lib.hid hp0
  have hpn := Lib.hid (NewB.down hpn0 (show q + 1 ≤ w6.heap.size from hQi6))
  clear hp0 hNp hpn0
  have hV7 := hV6.keep hb' hV6.inside
  have hQ7 := hQ'.out.keep hb' hQ'.out.inside
  have hS7 := hS'.out.keep hb' hS'.out.inside
  have hb7 := hb6.trans (hb'.mono hb6.size)
  replace hf := Lib.hid (RowB.on hf.out hb')
  clear hb' hV6 hb6 hQ' hS'
  have v0 := hV7.cell 0
  have v1 := hV7.cell 1
  have v2 := hV7.cell 2
  have v3 := hV7.cell 3
  have v4 := hV7.cell 4
  simp at v0 v1 v2 v3 v4
  have hvi := hV7.inside
  have hcl := Push_all vK0 _ _ lW [qW] (by decide) lW_nums 1 1048577 w7 (row_of (l := lW) hS7 rfl (by decide)) (rqs_of (l := [qW, q0]) hQ7 rfl (k := 1) (c := 2) (by decide) (by decide) (by decide))
  have hQi7 : q + 1 ≤ w7.heap.size := Nat.le_of_lt hQ7.inside
  have hQ' := Lib.hid hQ7
  have hS' := Lib.hid hS7
  clear hQ7 hS7
  go_wp2_with fail
  refine hcl.mono ?_
  clear hcl v0 v1 v2 v3 v4 hvi
  rintro e w8 ⟨⟨u7, rfl, -, -⟩, hb'⟩
  rw [kn8]
  generalize pushH vK0 lW [qW] 1 1048577 = hx7
  have hV8 := hV7.keep hb' hV7.inside
  have hQ8 := hQ'.out.keep hb' hQ'.out.inside
  have hS8 := hS'.out.keep hb' hS'.out.inside
  have hb8 := hb7.trans (hb'.mono hb7.size)
  replace hf := Lib.hid (RowB.on hf.out hb')
  replace hp := Lib.hid (RowB.on hp.out hb')
  clear hb' hV7 hb7 hQ' hS'
  have v0 := hV8.cell 0
  have v1 := hV8.cell 1
  have v2 := hV8.cell 2
  have v3 := hV8.cell 3
  have v4 := hV8.cell 4
  simp at v0 v1 v2 v3 v4
  have hvi := hV8.inside
  have hcl := Push_all vK0 _ _ lW [qW] (by decide) lW_nums 2 0 w8 (row_of (l := lW) hS8 rfl (by decide)) (rqs_of (l := [qW, q0]) hQ8 rfl (k := 1) (c := 2) (by decide) (by decide) (by decide))
  have hQi8 : q + 1 ≤ w8.heap.size := Nat.le_of_lt hQ8.inside
  have hQ' := Lib.hid hQ8
  have hS' := Lib.hid hS8
  clear hQ8 hS8
  go_wp2_with fail
  refine hcl.mono ?_
  clear hcl v0 v1 v2 v3 v4 hvi
  rintro e w9 ⟨⟨u8, rfl, -, -⟩, hb'⟩
  rw [kn9]
  generalize pushH vK0 lW [qW] 2 0 = hx8
  have hV9 := hV8.keep hb' hV8.inside
  have hQ9 := hQ'.out.keep hb' hQ'.out.inside
  have hS9 := hS'.out.keep hb' hS'.out.inside
  have hb9 := hb8.trans (hb'.mono hb8.size)
  replace hf := Lib.hid (RowB.on hf.out hb')
  replace hp := Lib.hid (RowB.on hp.out hb')
  clear hb' hV8 hb8 hQ' hS'
  have v0 := hV9.cell 0
  have v1 := hV9.cell 1
  have v2 := hV9.cell 2
  have v3 := hV9.cell 3
  have v4 := hV9.cell 4
  simp at v0 v1 v2 v3 v4
  have hvi := hV9.inside
  have hcl := Push_all vK0 _ _ lW [qW] (by decide) lW_nums 0 (-1) w9 (row_of (l := lW) hS9 rfl (by decide)) (rqs_of (l := [qW, q0]) hQ9 rfl (k := 1) (c := 2) (by decide) (by decide) (by decide))
  have hQi9 : q + 1 ≤ w9.heap.size := Nat.le_of_lt hQ9.inside
  have hQ' := Lib.hid hQ9
  have hS' := Lib.hid hS9
  clear hQ9 hS9
  go_wp2_with fail
  refine hcl.mono ?_
  clear hcl v0 v1 v2 v3 v4 hvi
  rintro e w10 ⟨⟨u9, rfl, -, -⟩, hb'⟩
  rw [kn10]
  generalize pushH vK0 lW [qW] 0 (-1) = hx9
  have hV10 := hV9.keep hb' hV9.inside
  have hQ10 := hQ'.out.keep hb' hQ'.out.inside
  have hS10 := hS'.out.keep hb' hS'.out.inside
  have hb10 := hb9.trans (hb'.mono hb9.size)
  replace hf := Lib.hid (RowB.on hf.out hb')
  replace hp := Lib.hid (RowB.on hp.out hb')
  clear hb' hV9 hb9 hQ' hS'
  have f4 := hV10.free
  have v3 := hV10.cell 4
  simp at v3
  have hvi := hV10.inside
  have hV11 : At (w10.setCell ⟨q, 4, none⟩ (.int .i64 19)) q 31 #[.int .i64 0, .int .i64 0, .int .i64 9, .int .i64 0, .int .i64 19] := by simpa using hV10.put 4 (.int .i64 19)
  have hQ11 := hQ10.far (b := q) (by omega) 4 (.int .i64 19)
  have hS11 := hS10.far (b := q) (by omega) 4 (.int .i64 19)
  have hb11 := hb10.setCell (p := ⟨q, 4, none⟩) hwq (.int .i64 19)
  have hf11 := Lib.hid (row_far (i := 4) (x := .int .i64 19) hf.out hfn.out (Nat.lt_succ_self q))
  have hp11 := Lib.hid (row_far (i := 4) (x := .int .i64 19) hp.out hpn.out (Nat.lt_succ_self q))
  clear hV10 hQ10 hS10 hb10 hf hp
  go_upto_region 13 with fail
  generalize w10.setCell ⟨q, 4, none⟩ (.int .i64 19) = w11 at *
  have hf := Lib.hid hf11.out
  have hp := Lib.hid hp11.out
  clear f4 v3 hvi hf11 hp11
  have v0 := hV11.cell 0
  have v1 := hV11.cell 1
  have v2 := hV11.cell 2
  have v3 := hV11.cell 3
  have v4 := hV11.cell 4
  simp at v0 v1 v2 v3 v4
  have hvi := hV11.inside
  have hcl := Float_all vK1 _ _ lW [qW] (by decide) lW_nums w11 (row_of (l := lW) hS11 rfl (by decide)) (rqs_of (l := [qW, q0]) hQ11 rfl (k := 1) (c := 2) (by decide) (by decide) (by decide))
  have hQi11 : q + 1 ≤ w11.heap.size := Nat.le_of_lt hQ11.inside
  have hQ' := Lib.hid hQ11
  have hS' := Lib.hid hS11
  clear hQ11 hS11
  go_wp2_with fail
  refine hcl.mono ?_
  clear hcl v0 v1 v2 v3 v4 hvi
  rintro e w12 ⟨⟨ug, rfl, -, -⟩, hb'⟩
  rw [kn11]
  have hV12 := hV11.keep hb' hV11.inside
  have hQ12 := hQ'.out.keep hb' hQ'.out.inside
  have hS12 := hS'.out.keep hb' hS'.out.inside
  have hb12 := hb11.trans (hb'.mono hb11.size)
  replace hf := Lib.hid (RowB.on hf.out hb')
  replace hp := Lib.hid (RowB.on hp.out hb')
  clear hb' hV11 hb11 hQ' hS'
  have v0 := hV12.cell 0
  have v1 := hV12.cell 1
  have v2 := hV12.cell 2
  have v3 := hV12.cell 3
  have v4 := hV12.cell 4
  simp at v0 v1 v2 v3 v4
  have hvi := hV12.inside
  have hcl := Push_all vK1 _ _ lW [qW] (by decide) lW_nums 9 0 w12 (row_of (l := lW) hS12 rfl (by decide)) (rqs_of (l := [qW, q0]) hQ12 rfl (k := 1) (c := 2) (by decide) (by decide) (by decide))
  have hQi12 : q + 1 ≤ w12.heap.size := Nat.le_of_lt hQ12.inside
  have hQ' := Lib.hid hQ12
  have hS' := Lib.hid hS12
  clear hQ12 hS12
  go_wp2_with fail
  refine hcl.mono ?_
  clear hcl v0 v1 v2 v3 v4 hvi
  rintro e w13 ⟨⟨uh, rfl, -, -⟩, hb'⟩
  rw [kn12]
  generalize pushH vK1 lW [qW] 9 0 = hx12
  have hV13 := hV12.keep hb' hV12.inside
  have hQ13 := hQ'.out.keep hb' hQ'.out.inside
  have hS13 := hS'.out.keep hb' hS'.out.inside
  have hb13 := hb12.trans (hb'.mono hb12.size)
  replace hf := Lib.hid (RowB.on hf.out hb')
  replace hp := Lib.hid (RowB.on hp.out hb')
  clear hb' hV12 hb12 hQ' hS'
  have v0 := cell_regrown (hV13.cell 0)
  have v1 := cell_regrown (hV13.cell 1)
  have v2 := cell_regrown (hV13.cell 2)
  have v3 := cell_regrown (hV13.cell 3)
  have v4 := cell_regrown (hV13.cell 4)
  simp at v0 v1 v2 v3 v4
  have hcq := fun d os => Calls.regrown_of (Latest_err vK1 _ _ [(0, 0)] [qW] (by decide) (nums_small (by decide)) 8 kn13 (by decide) (grow (redrawn w13 d) os) (row_cut (l := lW) (hS13.keep (below_regrown w13 d os) hS13.inside) rfl (k := 1) (c := 2) (by decide) (by decide) (by decide)) (rqs_of (l := [qW, q0]) (hQ13.keep (below_regrown w13 d os) hQ13.inside) rfl (k := 1) (c := 2) (by decide) (by decide) (by decide)))
  go_upto_region 15 with fail
  refine wp_region_quiet_below (by kernel_rfl) (by kernel_rfl) ?_
  repeat (go_big_quiet_step (exact hcq _ _))
  refine wpQuiet_nil ?_
  intro _ hw'
  obtain ⟨⟨dq, osq⟩, hw''⟩ := hw'
  subst hw''
  have hb' := below_regrown w13 dq osq
  have hb14 := Lib.hid (hb13.trans (hb'.mono hb13.size))
  replace hf := Lib.hid (RowB.on hf.out hb')
  replace hp := Lib.hid (RowB.on hp.out hb')
  clear hcq v0 v1 v2 v3 v4 hb' hV13 hQ13 hS13 hb13 hw3' hq'
  generalize grow (redrawn w13 dq) osq = w14 at *
  go_upto_region 16 with fail
  simp only [List.append_eq, List.cons_append, List.nil_append]
  go_wp2_with fail
  refine (works_any _).mono ?_
  rintro e w15 ⟨rfl, hb'⟩
  have hb15 := Lib.hid (hb14.out.trans (hb'.mono hb14.out.size))
  have hf15 := RowB.on hf.out hb'
  have hp15 := RowB.on hp.out hb'
  clear hb' hb14 hf hp
  have hn1 : Below w15.heap.size w15 (w15.alloc (.cells #[.int .i64 0, .int .i64 0] 3)) := (Below.refl _ _).alloc (Nat.le_refl _) _
  have hc1 := ints_any (.slice xf 2 cf) _ [0, 0] [0, 0] (by decide) _ (RowB.on hf15 hn1) (IntsAt.ints (p := w15.heap.size) (ns := [0, 0]) (At.new w15 _ _) (by decide))
  rw [show decide (([0, 0] : List Int) = [0, 0]) = true by decide] at hc1
  have hp' := Lib.hid (RowB.on hp15 hn1)
  have hb8 := Lib.hid (hb15.out.trans (hn1.mono hb15.out.size))
  have hb8s := hb8.out.size
  clear hn1 hf15 hp15 hb15
  go_wp2_with fail
  refine hc1.mono ?_
  clear hc1
  rintro e wA ⟨rfl, hb'⟩
  have hbA := Lib.hid (hb8.out.trans (hb'.mono hb8s))
  have hpA : Tms wA.heap.size wA (.slice xp 2 cp) [⟨5, 5, 6⟩, ⟨10, 10, 11⟩] := RowB.on hp'.out hb'
  obtain ⟨g, o, rfl, hg, -, c1, -⟩ := Tms.at hpA (k := 1) rfl
  simp at c1
  clear hpA hp' hb8 hb8s hb'
  go_wp2
  go_ret
  exact ⟨rfl, hbA.out⟩

end Go.Proofs.Ytfoflfeaegfnnaa.Slack

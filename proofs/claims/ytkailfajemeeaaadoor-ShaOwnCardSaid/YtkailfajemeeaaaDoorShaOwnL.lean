/-
  ShaOwn: a copy of a hash is its own; a sum leaves the hash as it was.
-/
import Derived.Test.YtkailfajemeeaaaDoorShaEq
import Derived.Test.YtkailfajemeeaaaDoorShaWorks
namespace Go.Proofs.YtkailfajemeeaaaDoor.Sha
open Go.RowKit Go.Sort Go.Shelf Go.Proofs.YtkailfajemeeaaaDoor.Mem Go.Proofs.YtkailfajemeeaaaDoor.Route
set_option linter.unusedVariables false

attribute [local go_sem] eq_sum

theorem wpQuiet_load_part_w {P : Program} {ops : Array Oper} {C : World → Prop} {Q : Act → Prop} {a : Act} {o : Oper} {rest : List Oper} (hgd : Region.wanted o (yielded ops a.tmps) = true) (ty : TypeId) (x : Operand) (ho : o.op = .load ty x)
    (g off : Nat) (hx : a.eval x = .pointer (some ⟨g, off, none⟩)) (cs : List Value) (hc : ∀ w, C w → ∀ j v, cs[j]? = some v → w.cell? ⟨g, off + j, none⟩ = some v) (d : TypeDesc)
    (hu : P.underlying ty = some d) (hd : (match d with | .struct _ | .array _ _ => true | _ => false) = true) (hi : (P.info? ty).map (·.size) = some cs.length)
    (h : wpQuiet P ops C Q rest (a.put o.dst (.agg cs.toArray))) : wpQuiet P ops C Q (o :: rest) a := by
  refine BigFrame.wpQuiet_want hgd fun K hK => ⟨.agg cs.toArray, fun w hw => ?_, hK _ h⟩
  unfold Oper.quietAt execOp
  simp only [ho, hx, Instr.loadAt, Instr.sureAddr, Sem.run_bind, Sem.run_pure, Result.andThen_ok, run_load_part w g off ty cs d (hc w hw) hu hd hi]
  exact ⟨rfl, rfl⟩
theorem sum_cells (all : List Nat) : ((sumL all).map u8V).toArray.all (·.oneCell') = true :=
  Array.all_eq_true_iff_forall_mem.2 fun v hv => one_u8 v (by simpa using hv)
theorem sum_size (all : List Nat) : ((sumL all).map u8V).toArray.size = 32 := by simp [sumL_length]
theorem sum_info (all : List Nat) : (Tryd.prog.info? 23).map (·.size) = some ((sumL all).map u8V).toArray.size := by rw [sum_size]; kernel_rfl
theorem sum_info' (all : List Nat) : (Tryd.prog.info? 23).map (·.size) = some ((sumL all).map u8V).length := by rw [List.length_map, sumL_length]; kernel_rfl
theorem zero_size (all : List Nat) : (padB 32 []).toArray.size = ((sumL all).map u8V).toArray.size := by rw [sum_size]; rfl

set_option maxRecDepth 100000 in
set_option maxHeartbeats 4000000 in
theorem own_walk (t0 t1 t2 : ByteArray) (w : World) (hsg : Sg w) :
    Calls Tryd.prog 6 #[.string t0, .string t1, .string t2] w fun e w' => e = .returned (.bool true) ∧ Below w.heap.size w w' := by
  obtain ⟨n, hn⟩ : ∃ n, w.heap.size = n := ⟨_, rfl⟩
  have hp1 := hsg.posh
  have hp2 := hsg.posk
  rw [hn] at hp1 hp2
  obtain ⟨m0, hm0⟩ : ∃ m : Nat, min (t0.size : Int) 200 = m := ⟨min t0.size 200, by omega⟩
  obtain ⟨m1, hm1⟩ : ∃ m : Nat, min (t1.size : Int) 200 = m := ⟨min t1.size 200, by omega⟩
  obtain ⟨m2, hm2⟩ : ∃ m : Nat, min (t2.size : Int) 200 = m := ⟨min t2.size 200, by omega⟩
  have l0 : m0 ≤ t0.size := by omega
  have l1 : m1 ≤ t1.size := by omega
  have l2 : m2 ≤ t2.size := by omega
  have s0 : (t0.extract 0 m0).size ≤ 200 := by rw [size_cut t0 0 m0 l0]; omega
  have s1 : (t1.extract 0 m1).size ≤ 200 := by rw [size_cut t1 0 m1 l1]; omega
  have s2 : (t2.extract 0 m2).size ≤ 200 := by rw [size_cut t2 0 m2 l2]; omega
  have hwk := works_any w hsg
  rw [hn] at hwk
  go_enter Tryd.func6, Tryd.ntmps6
  go_wp2_with fail
  refine hwk.mono ?_
  clear hwk
  rintro e w1 ⟨rfl, hb1⟩
  have hsg1 : Sg w1 := hsg.keep hb1 hp1 hp2
  have hz1 := hb1.size
  rw [hn] at hz1
  go_upto_region 3 with fail
  refine wp_region_quiet_below (by kernel_rfl) (by kernel_rfl) ?_
  repeat (go_big_quiet_step (fail))
  refine wpQuiet_nil ?_
  intro _ hw'
  obtain ⟨⟨dq, osq⟩, hw''⟩ := hw'
  subst hw''
  dsimp only
  have hbg := below_regrown w1 dq osq
  have hB2 := hb1.trans (hbg.mono (by omega))
  have hsg2 := hsg1.on hbg
  have hz2 := hbg.size
  clear hb1 hbg hsg1 hsg
  generalize t0.extract 0 m0 = a0 at *
  generalize t1.extract 0 m1 = a1 at *
  generalize t2.extract 0 m2 = a2 at *
  clear hm0 hm1 hm2 l0 l1 l2
  generalize grow (redrawn w1 dq) osq = w2 at *
  obtain ⟨k, hk⟩ : ∃ k, w2.heap.size = k := ⟨_, rfl⟩
  have hnk : n ≤ k := by omega
  have hnew := new_any w2 hsg2
  rw [hk] at hnew
  clear hz1 hz2
  go_wp2_with fail
  refine hnew.mono ?_
  clear hnew
  rintro e w3 ⟨rfl, hh3, hb3⟩
  have hsg3 : Sg w3 := hsg2.keep hb3 (by omega) (by omega)
  have hB3 := hB2.trans (hb3.mono (by omega))
  have hk3 := hh3.inside
  clear hB2 hsg2 hb3
  replace hn := Lib.hid hn
  replace hk := Lib.hid hk
  have hw4 := write_any k [] a0 w3 hh3 (by simp; omega) hsg3 (by omega) (by omega)
  rw [List.nil_append] at hw4
  go_wp2_with fail
  refine hw4.mono ?_
  clear hw4
  rintro e w4 ⟨⟨v4, rfl⟩, hh4, hg4⟩
  have hB4 := hB3.grown hg4 (by omega) (fun r e => by cases e; omega)
  have hsg4 : Sg w4 := hsg3.same (hg4.block _ hsg3.posh (by simp; omega)) (hg4.block _ hsg3.posk (by simp; omega))
  have hk4 := hh4.inside
  clear hh3 hg4 hB3 hsg3 hk3
  obtain ⟨q, hq⟩ : ∃ q, w4.heap.size = q := ⟨_, rfl⟩
  have hkq : k < q := by omega
  have hcp := copy_any w4 k (bytesOf a0) hh4
  rw [hq] at hcp
  go_wp2_with fail
  refine hcp.mono ?_
  clear hcp
  rintro e w5 ⟨rfl, hc5, hb5⟩
  have hh5 := hh4.keep hb5 hkq
  have hsg5 := hsg4.keep hb5 (by omega) (by omega)
  have hB5 := hB4.trans (hb5.mono (by omega))
  have hq5 := hc5.inside
  clear hh4 hsg4 hB4 hb5 hk4
  replace hq := Lib.hid hq
  have hl0 := bytesOf_length a0
  have hl1 := bytesOf_length a1
  have hl2 := bytesOf_length a2
  go_wp2_with fail
  refine (sumOf_any k (bytesOf a0) w5 hh5 (by omega) hsg5).mono ?_
  rintro e w6 ⟨rfl, hb6⟩
  have hh6 := hh5.on hb6
  have hc6 := hc5.on hb6
  have hsg6 := hsg5.on hb6
  have hB6 := hB5.trans (hb6.mono (by omega))
  clear hh5 hc5 hsg5 hB5 hb6 hq5
  obtain ⟨m, hm⟩ : ∃ m, w6.heap.size = m := ⟨_, rfl⟩
  have hqm : q < m := by have := hc6.inside; omega
  obtain ⟨D0, hD0⟩ : ∃ D, (sumL (bytesOf a0)).map u8V = D := ⟨_, rfl⟩
  have o0 := Lib.hid (zero_size (bytesOf a0))
  have i0 := Lib.hid (sum_info (bytesOf a0))
  have j0 := Lib.hid (sum_info' (bytesOf a0))
  have c0 := Lib.hid (sum_cells (bytesOf a0))
  rw [hD0] at o0 i0 j0 c0 ⊢
  have hz0 : AtL (w6.alloc (.cells (padB 32 []).toArray 23)) m 23 (padB 32 []) := by rw [← hm]; exact AtL.new w6 _ _
  have hb7 : Below m w6 ((w6.alloc (.cells (padB 32 []).toArray 23)).setRow m D0.toArray) := below_row ((Below.refl _ _).alloc (by omega) _) (Nat.le_refl _) _
  have hd7 := hz0.row D0
  have hm' := Lib.hid hm
  go_upto_region 12 with (refine wpList_store_row rfl 23 _ _ rfl m D0.toArray (by rw [← hm'.out]; rfl) rfl 23 (padB 32 []).toArray hz0 i0.out o0.out c0.out ?_)
  generalize hz : World.setRow (World.alloc w6 _) m D0.toArray = w7
  replace hb7 : Below m w6 w7 := by rw [← hz]; exact hb7
  replace hd7 : AtL w7 m 23 D0 := by rw [← hz]; exact hd7
  have hh7 := hh6.keep hb7 (by omega)
  have hc7 := hc6.keep hb7 (by omega)
  have hsg7 := hsg6.keep hb7 (by omega) (by omega)
  have hB7 := hB6.trans (hb7.mono (by omega))
  have hm7 := hd7.inside
  clear hz hz0 hb7 hh6 hc6 hsg6 hB6 hm
  have hw8 := write_any k (bytesOf a0) a1 w7 hh7 (by omega) hsg7 (by omega) (by omega)
  rw [← bytesOf_append] at hw8
  go_wp2_with fail
  refine hw8.mono ?_
  clear hw8
  rintro e w8 ⟨⟨v8, rfl⟩, hh8, hg8⟩
  have hc8 : HashAt w8 q (bytesOf a0) := hc7.same (hg8.block _ hc7.inside (by simp; omega))
  have hd8 := hd7.grown hg8 (by omega)
  have hB8 := hB7.grown hg8 (by omega) (fun r e => by cases e; omega)
  have hsg8 : Sg w8 := hsg7.same (hg8.block _ hsg7.posh (by simp; omega)) (hg8.block _ hsg7.posk (by simp; omega))
  have hm8 := hd8.inside
  clear hh7 hc7 hd7 hB7 hsg7 hg8 hm7
  have hw9 := write_any q (bytesOf a0) a2 w8 hc8 (by omega) hsg8 (by omega) (by omega)
  rw [← bytesOf_append] at hw9
  go_wp2_with fail
  refine hw9.mono ?_
  clear hw9
  rintro e w9 ⟨⟨v9, rfl⟩, hc9, hg9⟩
  have hh9 : HashAt w9 k (bytesOf (a0 ++ a1)) := hh8.same (hg9.block _ hh8.inside (by simp; omega))
  have hd9 := hd8.grown hg9 (by omega)
  have hB9 := hB8.grown hg9 (by omega) (fun r e => by cases e; omega)
  have hsg9 : Sg w9 := hsg8.same (hg9.block _ hsg8.posh (by simp; omega)) (hg9.block _ hsg8.posk (by simp; omega))
  have hm9 := hd9.inside
  clear hh8 hc8 hd8 hB8 hsg8 hg9 hm8
  have z1 : (a0 ++ a1).size ≤ 400 := by rw [← bytesOf_length, bytesOf_append, List.length_append]; omega
  have z2 : (a0 ++ a2).size ≤ 400 := by rw [← bytesOf_length, bytesOf_append, List.length_append]; omega
  have y1 := bytesOf_length (a0 ++ a1)
  have y2 := bytesOf_length (a0 ++ a2)
  go_wp2_with fail
  refine (sumOf_any k (bytesOf (a0 ++ a1)) w9 hh9 (by omega) hsg9).mono ?_
  rintro e wa ⟨rfl, hba⟩
  have hha := hh9.on hba
  have hca := hc9.on hba
  have hda := hd9.on hba
  have hsga := hsg9.on hba
  have hBa := hB9.trans (hba.mono (by omega))
  have hma := hda.inside
  clear hh9 hc9 hd9 hsg9 hB9 hba hm9
  go_wp2_with fail
  refine (sumOf_any q (bytesOf (a0 ++ a2)) wa hca (by omega) hsga).mono ?_
  rintro e wb ⟨rfl, hbb⟩
  have hhb := hha.on hbb
  have hcb := hca.on hbb
  have hdb := hda.on hbb
  have hsgb := hsga.on hbb
  have hBb := hBa.trans (hbb.mono (by omega))
  have hmb := hdb.inside
  clear hha hca hda hsga hBa hbb hma
  obtain ⟨r, hr⟩ : ∃ r, wb.heap.size = r := ⟨_, rfl⟩
  obtain ⟨D1, hD1⟩ : ∃ D, (sumL (bytesOf (a0 ++ a1))).map u8V = D := ⟨_, rfl⟩
  obtain ⟨D2, hD2⟩ : ∃ D, (sumL (bytesOf (a0 ++ a2))).map u8V = D := ⟨_, rfl⟩
  have o1 := Lib.hid (zero_size (bytesOf (a0 ++ a1)))
  have i1 := Lib.hid (sum_info (bytesOf (a0 ++ a1)))
  have j1 := Lib.hid (sum_info' (bytesOf (a0 ++ a1)))
  have c1 := Lib.hid (sum_cells (bytesOf (a0 ++ a1)))
  have o2 := Lib.hid (zero_size (bytesOf (a0 ++ a2)))
  have i2 := Lib.hid (sum_info (bytesOf (a0 ++ a2)))
  have j2 := Lib.hid (sum_info' (bytesOf (a0 ++ a2)))
  have c2 := Lib.hid (sum_cells (bytesOf (a0 ++ a2)))
  rw [hD1] at o1 i1 j1 c1 ⊢
  rw [hD2] at o2 i2 j2 c2 ⊢
  have hz1 : AtL ((wb.alloc (.cells (padB 32 []).toArray 23)).alloc (.cells (padB 32 []).toArray 23)) r 23 (padB 32 []) := by rw [← hr]; exact (AtL.new wb _ _).alloc _
  have hz2 : AtL ((wb.alloc (.cells (padB 32 []).toArray 23)).alloc (.cells (padB 32 []).toArray 23)) (r + 1) 23 (padB 32 []) := by
    have := AtL.new (wb.alloc (.cells (padB 32 []).toArray 23)) 23 (padB 32 [])
    rwa [World.size_alloc, hr] at this
  have hbz : Below r wb ((wb.alloc (.cells (padB 32 []).toArray 23)).alloc (.cells (padB 32 []).toArray 23)) := ((Below.refl _ _).alloc (by omega) _).alloc (by simp; omega) _
  have hz3 := hz2.rowFar (b := r) (by omega) D1.toArray
  have hd1 := (hz1.row D1).rowFar (b := r + 1) (by omega) D2.toArray
  have hd2 := hz3.row D2
  have hbc := below_row (below_row hbz (Nat.le_refl _) D1.toArray) (Nat.le_succ _) D2.toArray
  have hr' := Lib.hid hr
  go_upto_region 15 with (first | (refine wpList_store_row rfl 23 _ _ rfl r D1.toArray (by rw [← hr'.out]; rfl) rfl 23 (padB 32 []).toArray hz1 i1.out o1.out c1.out ?_) | (refine wpList_store_row rfl 23 _ _ rfl (r + 1) D2.toArray (by rw [← hr'.out]; rfl) rfl 23 (padB 32 []).toArray hz3 i2.out o2.out c2.out ?_))
  simp only [Act.put]
  generalize hz : World.setRow (World.setRow _ _ _) _ _ = wc
  replace hbc : Below r wb wc := by rw [← hz]; exact hbc
  replace hd1 : AtL wc r 23 D1 := by rw [← hz]; exact hd1
  replace hd2 : AtL wc (r + 1) 23 D2 := by rw [← hz]; exact hd2
  have hhc := hhb.keep hbc (by omega)
  have hcc := hcb.keep hbc (by have := hcb.inside; omega)
  have hdc := hdb.keep hbc (by omega)
  have hsgc := hsgb.keep hbc (by omega) (by omega)
  have hBc := hBb.trans (hbc.mono (by omega))
  have hnr : n ≤ r := by omega
  clear hz hz1 hz2 hz3 hbz hbc hhb hcb hdb hsgb hBb hr o0 o1 o2 i0 i1 i2 c0 c1 c2
  have cA := fun d os => Calls.regrown_of (psum_any a0 (by omega) _ (hsgc.on (below_regrown wc d os)))
  have cB := fun d os => Calls.regrown_of (psum_any (a0 ++ a1) (by omega) _ (hsgc.on (below_regrown wc d os)))
  have cC := fun d os => Calls.regrown_of (psum_any (a0 ++ a2) (by omega) _ (hsgc.on (below_regrown wc d os)))
  have cD := fun d os => Calls.regrown_of (sumOf_any k (bytesOf (a0 ++ a1)) _ (hhc.on (below_regrown wc d os)) (by omega) (hsgc.on (below_regrown wc d os)))
  have cE := fun d os => Calls.regrown_of (sumOf_any q (bytesOf (a0 ++ a2)) _ (hcc.on (below_regrown wc d os)) (by omega) (hsgc.on (below_regrown wc d os)))
  have e0 := eq_sum (bytesOf a0)
  have e1 := eq_sum (bytesOf (a0 ++ a1))
  have e2 := eq_sum (bytesOf (a0 ++ a2))
  rw [hD0] at cA e0
  rw [hD1] at cB cD e1
  rw [hD2] at cC cE e2
  have f0 : ∀ X, (∃ p : Regrown, X = grow (redrawn wc p.d) p.os) → ∀ j v, D0[j]? = some v → X.cell? ⟨m, 0 + j, none⟩ = some v := by
    rintro X ⟨p, rfl⟩ j v hv
    rw [Nat.zero_add]
    exact cell_regrown (hdc.get hv) p.d p.os
  have f1 : ∀ X, (∃ p : Regrown, X = grow (redrawn wc p.d) p.os) → ∀ j v, D1[j]? = some v → X.cell? ⟨r, 0 + j, none⟩ = some v := by
    rintro X ⟨p, rfl⟩ j v hv
    rw [Nat.zero_add]
    exact cell_regrown (hd1.get hv) p.d p.os
  have f2 : ∀ X, (∃ p : Regrown, X = grow (redrawn wc p.d) p.os) → ∀ j v, D2[j]? = some v → X.cell? ⟨r + 1, 0 + j, none⟩ = some v := by
    rintro X ⟨p, rfl⟩ j v hv
    rw [Nat.zero_add]
    exact cell_regrown (hd2.get hv) p.d p.os
  have hBc' := Lib.hid hBc
  have hnc : n ≤ wc.heap.size := by have := hd2.inside; omega
  clear hBc hD0 hD1 hD2
  replace f0 := Lib.hid f0
  replace f1 := Lib.hid f1
  replace f2 := Lib.hid f2
  refine wp_region_quiet_below (by kernel_rfl) (by kernel_rfl) ?_
  repeat (first | (refine wpQuiet_load_part_w rfl 23 _ rfl m 0 rfl D0 f0.out _ Tryd.underlying23 rfl j0.out ?_; go_simp) | (refine wpQuiet_load_part_w rfl 23 _ rfl r 0 rfl D1 f1.out _ Tryd.underlying23 rfl j1.out ?_; go_simp) | (refine wpQuiet_load_part_w rfl 23 _ rfl (r + 1) 0 rfl D2 f2.out _ Tryd.underlying23 rfl j2.out ?_; go_simp) | go_big_quiet_step (first | with_reducible exact cA _ _ | with_reducible exact cB _ _ | with_reducible exact cC _ _ | with_reducible exact cD _ _ | with_reducible exact cE _ _))
  refine wpQuiet_nil ?_
  intro pq
  obtain ⟨dq2, osq2⟩ := pq
  dsimp only
  have hB := Lib.hid (hBc'.out.trans ((below_regrown wc dq2 osq2).mono hnc))
  clear hhc hcc hdc hsgc cA cB cC cD cE e0 e1 e2 f0 f1 f2 hd1 hd2
  generalize grow (redrawn wc dq2) osq2 = wd at hB ⊢
  go_wp2
  go_ret
  rw [hn.out]
  exact ⟨rfl, hB.out⟩

end Go.Proofs.YtkailfajemeeaaaDoor.Sha

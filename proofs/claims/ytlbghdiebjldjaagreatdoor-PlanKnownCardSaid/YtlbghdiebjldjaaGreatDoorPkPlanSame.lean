import Derived.Test.YtlbghdiebjldjaaGreatDoorPkPlanRefNew

namespace Go.Proofs.YtlbghdiebjldjaaGreatDoor.Plan
open Go.RowKit Go.Sort Go.Proofs.YtlbghdiebjldjaaGreatDoor.Mem Go.Proofs.YtlbghdiebjldjaaGreatDoor.Route Go.Proofs.YtlbghdiebjldjaaGreatDoor.When
set_option linter.unusedVariables false
set_option maxRecDepth 100000 in
set_option maxHeartbeats 1000000 in
theorem refInts_any (sv tv : Value) (xs ys : List Int) (hx : xs.length ≤ 140737488351232) (w : World) (hI : Ints w.heap.size w sv xs) (hJ : Ints w.heap.size w tv ys) :
 Calls Tryz.prog 28 #[sv, tv] w fun e w' => e = .returned (.bool (decide (xs = ys))) ∧ Below w.heap.size w w' := by
 obtain ⟨x, N, cap, rfl, hN, hc1, hc2⟩ := hI.opened
 obtain ⟨y, M, cap2, rfl, hM, hc3, hc4⟩ := hJ.opened
 rw [hN.out] at hx
 have hI' := Lib.hid hI
 have hJ' := Lib.hid hJ
 clear hI hJ
 by_cases hl : N = M
 · subst hl
   go_enter Tryz.func28, Tryz.ntmps28
   go_wp2
   go_loopw [5] (fun i wr => ∃ k : Nat, k ≤ N ∧ i = .int .i64 k ∧ Hid (xs.take k = ys.take k) ∧ Below w.heap.size w wr) (fun i _ => N - (intOf i).toNat)
   case atStart => exact ⟨0, by omega, rfl, Lib.hid (by simp), Below.refl _ _⟩
   case round =>
    obtain ⟨k, hk, rfl, hag, hbw⟩ := hrel
    by_cases hlt : k < N
    · obtain ⟨s, hs⟩ : ∃ s, xs[k]? = some s := ⟨xs[k]'(by rw [hN.out]; exact hlt), List.getElem?_eq_getElem _⟩
      obtain ⟨t, ht⟩ : ∃ s, ys[k]? = some s := ⟨ys[k]'(by rw [hM.out]; exact hlt), List.getElem?_eq_getElem _⟩
      obtain ⟨g, o, rfl, hg, e1⟩ := Ints.number hI'.out hs
      obtain ⟨g2, o2, rfl, hg2, e3⟩ := Ints.number hJ'.out ht
      have e1 := (hbw.cell (p := ⟨g, o + k, none⟩) hg).trans e1
      have e3 := (hbw.cell (p := ⟨g2, o2 + k, none⟩) hg2).trans e3
      have hno := Lib.hid (unlike_at hs ht)
      have hyes := Lib.hid (alike_succ hs ht hag.out)
      clear hs ht
      cases h1 : (s == t)
      · go_wp2
        go_quiet (fail)
        go_wp2
        go_ret
        exact ⟨ret_bool (hno.out (by simpa using h1)).symm, Place.below_drewN hbw nq⟩
      · go_wp2
        go_quiet (fail)
        go_wp2
        go_roundw
        case rel => exact ⟨k + 1, by omega, by go_num, Lib.hid (hyes.out (by simpa using h1)), Place.below_drewN hbw nq⟩
        case measure => simp [intOf]; omega
    · obtain rfl : k = N := by omega
      go_wp2
      go_ret
      exact ⟨ret_bool (alike_all hN.out hM.out hag.out).symm, hbw⟩
 · have hd := Lib.hid (unlike_len (xs := xs) (ys := ys) (by rw [hN.out, hM.out]; exact hl))
   have hl' : ((N : Int) == M) = false := by rw [beq_eq_false_iff_ne]; omega
   go_enter Tryz.func28, Tryz.ntmps28
   go_wp2
   go_ret
   exact ⟨ret_bool hd.out.symm, Below.refl _ _⟩
def Rws (B : Nat) (W : World) (v : Value) (ls : List (List (Int × Int))) : Prop :=
 ∃ us : List Value, us.length = ls.length ∧ RowB B W v 1 (us.map fun u => [u]) ∧ ∀ (i : Nat) u l, us[i]? = some u → ls[i]? = some l → Row B W u l
theorem Rws.keep {B C : Nat} {W W' : World} {v : Value} {ls : List (List (Int × Int))} (h : Rws B W v ls) (hb : Below C W W') (hB : B ≤ C) : Rws B W' v ls := by
 obtain ⟨us, h1, h2, h3⟩ := h
 exact ⟨us, h1, h2.keep hb hB, fun i u l hu hl => (h3 i u l hu hl).keep hb hB⟩
theorem Rws.more {B C : Nat} {W : World} {v : Value} {ls : List (List (Int × Int))} (h : Rws B W v ls) (hB : B ≤ C) : Rws C W v ls := by
 obtain ⟨us, h1, h2, h3⟩ := h
 exact ⟨us, h1, h2.more hB, fun i u l hu hl => (h3 i u l hu hl).more hB⟩
theorem Rws.on {W W' : World} {v : Value} {ls : List (List (Int × Int))} (h : Rws W.heap.size W v ls) (hb : Below W.heap.size W W') : Rws W'.heap.size W' v ls := (h.keep hb (Nat.le_refl _)).more hb.size
theorem Rws.opened {B : Nat} {W : World} {v : Value} {ls : List (List (Int × Int))} (h : Rws B W v ls) : ∃ x N cap, v = .slice x N cap ∧ ls.length = N ∧ N ≤ cap ∧ cap ≤ maxLen := by
 obtain ⟨us, h1, ⟨x, cap, rfl, h2, h4, h0, _⟩, h3⟩ := h
 exact ⟨x, ls.length, cap, by simp [h1], rfl, by simpa [h1] using h2, h4⟩
theorem Rws.at {B : Nat} {W : World} {x : Option Addr} {n cap : Nat} {ls : List (List (Int × Int))} (h : Rws B W (.slice x n cap) ls) {k : Nat} {l : List (Int × Int)} (hk : ls[k]? = some l) : ∃ g o u, x = some ⟨g, o, none⟩ ∧ g < B ∧ W.cell? ⟨g, o + k, none⟩ = some u ∧ Row B W u l := by
 obtain ⟨us, h1, h2, h3⟩ := h
 have hi := (List.getElem?_eq_some_iff.1 hk).1
 have hu : us[k]? = some (us[k]'(by omega)) := List.getElem?_eq_getElem (by omega)
 obtain ⟨g, o, e, hg, hc⟩ := RowB.row h2 (j := k) (r := [us[k]'(by omega)]) (by rw [List.getElem?_map, hu]; rfl)
 have := hc 0 _ rfl
 exact ⟨g, o, _, e, hg, by simpa using this, h3 k _ l hu hk⟩
set_option maxRecDepth 100000 in
set_option maxHeartbeats 2000000 in
theorem refSame_any (sv tv : Value) (xs ys : List (List (Int × Int))) (hx : xs.length ≤ 1000000) (hxl : ∀ l ∈ xs, l.length ≤ 1000000) (w : World) (hI : Rws w.heap.size w sv xs) (hJ : Rws w.heap.size w tv ys) :
 Calls Tryz.prog 27 #[sv, tv] w fun e w' => e = .returned (.bool (decide (xs = ys))) ∧ Below w.heap.size w w' := by
 obtain ⟨x, N, cap, rfl, hN0, hc1, hc2⟩ := hI.opened
 obtain ⟨y, M, cap2, rfl, hM0, hc3, hc4⟩ := hJ.opened
 rw [hN0] at hx
 unfold maxLen at hc2 hc4
 have hN := Lib.hid hN0
 have hM := Lib.hid hM0
 have hI' := Lib.hid hI
 have hJ' := Lib.hid hJ
 have hxl' := Lib.hid hxl
 clear hI hJ hN0 hM0 hxl
 by_cases hl : N = M
 · subst hl
   go_enter Tryz.func27, Tryz.ntmps27
   go_wp2
   go_loopw [5] (fun i wr => ∃ k : Nat, k ≤ N ∧ i = .int .i64 k ∧ Hid (xs.take k = ys.take k) ∧ Below w.heap.size w wr) (fun i _ => N - (intOf i).toNat)
   case atStart => exact ⟨0, by omega, rfl, Lib.hid (by simp), Below.refl _ _⟩
   case round =>
    obtain ⟨k, hk, rfl, hag, hbw⟩ := hrel
    by_cases hlt : k < N
    · obtain ⟨s, hs⟩ : ∃ s, xs[k]? = some s := ⟨xs[k]'(by rw [hN.out]; exact hlt), List.getElem?_eq_getElem _⟩
      obtain ⟨t, ht⟩ : ∃ s, ys[k]? = some s := ⟨ys[k]'(by rw [hM.out]; exact hlt), List.getElem?_eq_getElem _⟩
      obtain ⟨g, o, u, rfl, hg, e1, hu⟩ := Rws.at (Rws.more (hI'.out.keep hbw (Nat.le_refl _)) hbw.size) hs
      obtain ⟨g2, o2, u2, rfl, hg2, e2, hu2⟩ := Rws.at (Rws.more (hJ'.out.keep hbw (Nat.le_refl _)) hbw.size) ht
      obtain ⟨xu, Nu, cu, rfl, -⟩ := hu.opened
      obtain ⟨xu2, Nu2, cu2, rfl, -⟩ := hu2.opened
      have hsl : s.length ≤ 1000000 := hxl'.out s (List.mem_of_getElem? hs)
      have hC := fun d os => Calls.regrown_of (Same_any _ _ s t (by omega) (grow (redrawn wr d) os) (hu.on (below_regrown wr d os)) (hu2.on (below_regrown wr d os)))
      have q1 := cell_regrown e1
      have q2 := cell_regrown e2
      have hkI : (k : Int) < (N : Int) := by omega
      have hyes := Lib.hid (fun e : s = t => alike_succ hs ht hag.out e)
      have hnot := Lib.hid (fun e : s ≠ t => unlike_at hs ht e)
      have hsz := hbw.size
      have hbw' := Lib.hid hbw
      have hkN := Lib.hid hlt
      obtain ⟨b, hb⟩ : ∃ b, decide (s = t) = b := ⟨_, rfl⟩
      rw [hb] at hC
      clear hs ht e1 e2 hu hu2 hbw hag
      go_upto_region 6 with fail
      refine wp_region_quiet_below (by kernel_rfl) (by kernel_rfl) ?_
      repeat (go_big_quiet_step (with_reducible exact hC _ _))
      refine wpQuiet_nil ?_
      intro _ hw'
      obtain ⟨⟨dr, osr⟩, hw''⟩ := hw'
      subst hw''
      have hB2 := Lib.hid (hbw'.out.trans ((below_regrown wr dr osr).mono hsz))
      clear hC q1 q2
      cases b
      · have he := Lib.hid (hnot.out (by simpa using hb))
        go_wp2
        go_ret
        exact ⟨ret_bool he.out.symm, hB2.out⟩
      · have he := Lib.hid (hyes.out (by simpa using hb))
        go_wp2
        go_roundw
        case rel => exact ⟨k + 1, hkN.out, by go_num, he, hB2.out⟩
        case measure => simp [intOf]; omega
    · obtain rfl : k = N := by omega
      have he := Lib.hid (alike_all hN.out hM.out hag.out)
      clear hag
      go_wp2
      go_ret
      exact ⟨ret_bool he.out.symm, hbw⟩
 · have hd := Lib.hid (unlike_len (xs := xs) (ys := ys) (by rw [hN.out, hM.out]; exact hl))
   have hne : ((N : Int) == M) = false := by simp; omega
   have hne2 : ((N : Int) != M) = true := by simp; omega
   go_enter Tryz.func27, Tryz.ntmps27
   go_wp2
   go_ret
   exact ⟨ret_bool hd.out.symm, Below.refl _ _⟩
theorem info_vehP : (Tryz.prog.info? 64).map (fun i => (i.zero, i.size, i.bytes)) = some (some (.agg #[.int .i64 0, .int .i64 0, .int .i64 0, .int .i64 0, .int .i64 0]), 5, 40) := by kernel_rfl
theorem flatV_snoc (l : List Vh) (v : Vh) : flatV (l ++ [v]) = flatV l ++ [.int .i64 v.hx, .int .i64 v.hy, .int .i64 v.cp, .int .i64 v.st, .int .i64 v.en] := by simp [flatV, vhV]
structure PartsAt (M : Nat) (W : World) (uf ut : Value) (vs : List Vh) (t : List Rq) : Prop where
 ovs : W.ownsRow M 64 5 uf vs.length (flatV vs)
 ot : W.ownsRow M 72 10 ut t.length (flatQ t)
 cnt : 1 ≤ vs.length ∧ vs.length ≤ 4
 tl : t.length ≤ 9
 vdr : ∀ v ∈ vs, v.dr
 tdr : ∀ q ∈ t, q.dr
set_option maxRecDepth 100000 in
set_option maxHeartbeats 4000000 in
theorem parts13_any (xb : Option Addr) (Nb cb : Nat) (bs : List Int) (a b c f : Int) (w : World) (hrow : RowB w.heap.size w (.slice xb Nb cb) 1 (bs.map byV)) (hby : ∀ x ∈ bs, 0 ≤ x ∧ x < 256) (ha : 0 ≤ a ∧ a < 256) (hb : 0 ≤ b ∧ b < 256) (hf : 0 ≤ f ∧ f < 256) :
 Calls Tryz.prog 10 #[.agg #[.slice xb Nb cb, .int .u8 a, .int .u8 b, .int .i64 c, .int .u8 f]] w fun e w' =>
  (∃ uf ut, e = .returned (.tuple #[uf, ut]) ∧ ∃ vs t, PartsAt w.heap.size w' uf ut vs t) ∧ Below w.heap.size w w' := by
 obtain ⟨i0, hi, hz0, hz1, hz2⟩ := info_parts info_vehP
 obtain ⟨q, hq⟩ : ∃ q, w.heap.size = q := ⟨_, rfl⟩
 obtain ⟨w1, hw1⟩ : ∃ w1, w.alloc (.cells #[.slice xb Nb cb, .int .u8 a, .int .u8 b, .int .i64 c, .int .u8 f] 26) = w1 := ⟨_, rfl⟩
 have hs1 : w1.heap.size = q + 1 := by rw [← hw1]; simp [hq]
 have hd1 : At w1 q 26 #[.slice xb Nb cb, .int .u8 a, .int .u8 b, .int .i64 c, .int .u8 f] := by rw [← hw1]; exact At.new_ _ _ _ hq.symm
 have hb1 : Below q w w1 := by rw [← hw1]; exact (Below.refl _ _).alloc (by omega) _
 obtain ⟨w2, hw2⟩ : ∃ w2, w1.alloc (.cells #[.slice xb Nb cb, .int .u8 a, .int .u8 b, .int .i64 0] 24) = w2 := ⟨_, rfl⟩
 have hs2 : w2.heap.size = q + 2 := by rw [← hw2]; simp [hs1]
 have hd2 : At w2 q 26 #[.slice xb Nb cb, .int .u8 a, .int .u8 b, .int .i64 c, .int .u8 f] := by rw [← hw2]; exact hd1.alloc _
 have hb2 : Below q w w2 := by rw [← hw2]; exact hb1.alloc (by omega) _
 have hD2 : DraftAt w2 (q + 1) (.slice xb Nb cb) bs a b 0 := by
  refine ⟨?_, ?_, hby, ha, hb⟩
  · rw [← hw2]; exact At.new_ _ _ _ hs1.symm
  · rw [hq] at hrow
    exact (hrow.keep hb2 (Nat.le_refl _)).more (by omega)
 obtain ⟨m, hm⟩ : ∃ m : Nat, a % 10 = m := ⟨(a % 10).toNat, by omega⟩
 have hm9 : m ≤ 9 := by omega
 obtain ⟨n, hn⟩ : ∃ n : Nat, f % 4 = n := ⟨(f % 4).toNat, by omega⟩
 have hn3 : n ≤ 3 := by omega
 obtain ⟨ha1, ha2⟩ := ha
 obtain ⟨hf1, hf2⟩ := hf
 have a0 := hd1.cell 0
 have a1 := hd1.cell 1
 have a2 := hd1.cell 2
 simp at a0 a1 a2
 have p1 := hD2.box.cell 1
 simp at p1
 have hq' := Lib.hid hq
 have hw1' := Lib.hid hw1
 have hw2' := Lib.hid hw2
 have hs1' := Lib.hid hs1
 have hcQ := drequests_any w2 (q + 1) _ bs a b 0 m hD2 (by omega) hm9
 rw [hs2] at hcQ
 have hb2' := Lib.hid hb2
 have hd2' := Lib.hid hd2
 clear hrow hby hb hw1 hw2 hq hs1 hd1 hb1 hD2 hb2 hd2
 go_enter Tryz.func10, Tryz.ntmps10
 go_upto_region 1 with fail
 try simp only [hq'.out]
 try rw [hw1'.out]
 go_upto_region 2 with fail
 try simp only [hs1'.out]
 try rw [hw2'.out]
 go_wp2_with fail
 refine hcQ.mono ?_
 clear hcQ p1 a0 a1 a2
 rintro e w3 ⟨⟨u, t, rfl, hown, htl, hch⟩, hD3, hg3⟩
 have hd3 := Lib.hid (At.grownOff hd2'.out hg3 (by omega))
 have hB3 := Lib.hid (hb2'.out.grown hg3 (by omega) (fun r e => by cases e; omega))
 have hown3 := Lib.hid hown
 have htl' := Lib.hid htl
 have hch' := Lib.hid hch
 have hs3 : q + 2 ≤ w3.heap.size := by have := hg3.size; omega
 obtain ⟨xt, ct, rfl, _, _⟩ := owns_slice hown
 clear hg3 hown htl hch
 go_wp2
 go_loopw [6, 7] (fun u i wr => ∃ (j : Nat) (vs : List Vh) (x : Option Addr) (cap : Nat), i = .int .i64 j ∧ j ≤ n + 1 ∧ u = .slice x j cap ∧ vs.length = j ∧ wr.ownsRow (q + 2) 64 5 (.slice x j cap) j (flatV vs) ∧ (∀ v ∈ vs, v.dr) ∧ DraftAt wr (q + 1) (.slice xb Nb cb) bs a b (0 + 8 * m + 5 * j) ∧ Below q w wr ∧ At wr q 26 #[.slice xb Nb cb, .int .u8 a, .int .u8 b, .int .i64 c, .int .u8 f] ∧ wr.ownsRow (q + 2) 72 10 (.slice xt t.length ct) t.length (flatQ t) ∧ q + 2 ≤ wr.heap.size)
  (fun _ i _ => n + 1 - (intOf i).toNat)
 case atStart => exact ⟨0, [], none, 0, rfl, Nat.zero_le _, rfl, rfl, World.ownsRow_nil _ _ _ _, fun q hq => (by cases hq), by simpa using hD3, hB3.out, hd3.out, hown3.out, hs3⟩
 case round =>
  obtain ⟨j, vs, x, cap, rfl, hj, rfl, hvl, hown, hvd, hD, hB, hd, hot, hsz⟩ := hrel
  clear hD3 hd3 hB3 hown3
  have f0 := hd.cell 4
  simp at f0
  have hqw : q < wr.heap.size := hd.inside
  have hvl' := Lib.hid hvl
  have hvd' := Lib.hid hvd
  clear hvl hvd
  by_cases hlt : j ≤ n
  · have hcV := dvehicle_any wr (q + 1) _ bs a b (0 + 8 * m + 5 * j) hD (by omega)
    have hji : (j : Int) ≤ f % 4 := by omega
    have hown' := Lib.hid hown
    have hot' := Lib.hid hot
    have hB' := Lib.hid hB
    have hd' := Lib.hid hd
    have hjn := Lib.hid hlt
    clear hown hot hB hD hd
    go_wp2_with fail
    refine hcV.mono ?_
    clear hcV f0
    rintro e w4 ⟨⟨v, rfl, hv⟩, hD4, hg4⟩
    rw [show (0 : Int) + 8 * (m : Int) + 5 * (j : Int) + 5 = 0 + 8 * m + 5 * ((j + 1 : Nat) : Int) by omega] at hD4
    have hown4 := Lib.hid (owns_old hown'.out hg4 (fun r e => .inl (by cases e; omega)))
    have hot4 := Lib.hid (owns_old hot'.out hg4 (fun r e => .inl (by cases e; omega)))
    have hro := Lib.hid (owns_row hown'.out)
    have hB4 := Lib.hid (hB'.out.grown hg4 (by omega) (fun r e => by cases e; omega))
    have hd4 := Lib.hid (At.grownOff hd'.out hg4 (by omega))
    have hD4' := Lib.hid hD4
    have hv' := Lib.hid hv
    have hs4 : q + 2 ≤ w4.heap.size := Nat.le_trans hsz hg4.size
    have hj4 : j ≤ 4 := by omega
    clear hD4 hg4 hv
    go_wp2_with (at_builtin; refine wpList_append_own _ rfl _ _ 28 rfl (q + 2) 64 i0 (.agg #[.int .i64 0, .int .i64 0, .int .i64 0, .int .i64 0, .int .i64 0]) 5 40 Tryz.underlying28 hi hz0 hz1 hz2 rfl (by decide) _ _ _ rfl (hown4.out.alloc _) ⟨w4.heap.size, 0, none⟩ 1 1 [.int .i64 v.hx, .int .i64 v.hy, .int .i64 v.cp, .int .i64 v.st, .int .i64 v.en] rfl rfl (World.news_of_block (cs := #[.int .i64 v.hx, .int .i64 v.hy, .int .i64 v.cp, .int .i64 v.st, .int .i64 v.en]) (t := 64) (fr := (0, 0)) (heap_alloc_new w4 _)) (by simp [Value.oneCell']) (by unfold maxLen; omega) (by omega) (by simp; omega) ?_; intro v7 w7 hown7 hgrow7 hnil7; obtain ⟨x7, c7, rfl, _, _⟩ := owns_slice hown7)
    have hro2 : ∀ r, (Value.slice x j cap).ownBlock = some r → q + 2 ≤ r := hro.out
    have hD7 := (hD4'.out.alloc (.cells #[.int .i64 v.hx, .int .i64 v.hy, .int .i64 v.cp, .int .i64 v.st, .int .i64 v.en] 64)).under hgrow7 (fun r e => by have := hro2 r e; omega)
    have hB7 : Below q w w7 := (hB4.out.alloc (by omega) _).grown hgrow7 (by simp; omega) (fun r e => by have := hro2 r e; omega)
    have hd7 := At.under (m := q + 2) (hd4.out.alloc _) hgrow7 hro2 (by omega)
    have hot7 : w7.ownsRow (q + 2) 72 10 (.slice xt t.length ct) t.length (flatQ t) := by
     refine World.ownsRow.kept (hot4.out.alloc _) hgrow7 ?_
     rcases hb9 : (Value.slice xt t.length ct).ownBlock with _ | g9
     · exact .inl rfl
     · right
       intro e9
       exact own_neP hot4.out hown4.out (by decide) g9 hb9 e9.symm
    go_roundw
    case rel =>
     refine ⟨j + 1, vs ++ [v], x7, c7, by go_num, by have := hjn.out; omega, rfl, by simp [hvl'.out], by rw [flatV_snoc]; exact hown7, fun p hp => ?_, hD7, hB7, hd7, hot7, by have := hgrow7.size; simp at this; omega⟩
     rcases List.mem_append.1 hp with hp | hp
     · exact hvd'.out p hp
     · obtain rfl := List.mem_singleton.1 hp
       exact hv'.out
    case measure => simp [intOf]; omega
  · obtain rfl : j = n + 1 := by omega
    have hji : ¬ ((n : Int) + 1 ≤ f % 4) := by omega
    have hfin : Hid (PartsAt w.heap.size wr (.slice x (n + 1) cap) (.slice xt t.length ct) vs t) := Lib.hid (by
     refine ⟨by rw [hvl'.out, hq'.out]; exact owns_more hown (by omega), by rw [hq'.out]; exact owns_more hot (by omega), by rw [hvl'.out]; omega, by rw [htl'.out]; exact hm9, hvd'.out, hch'.out⟩)
    clear hown hot hD hd
    go_wp2
    refine bodyPost_ret (v := .tuple #[.slice x (n + 1) cap, .slice xt t.length ct]) (by simp [results, Tryz.results10, go_sem]) rfl ?_
    exact ⟨⟨_, _, rfl, vs, t, hfin.out⟩, by rw [hq'.out]; exact hB⟩
end Go.Proofs.YtlbghdiebjldjaaGreatDoor.Plan
namespace Go.Proofs.YtlbghdiebjldjaaGreatDoor.Plan
open Go.RowKit Go.Proofs.YtlbghdiebjldjaaGreatDoor.Mem Go.Proofs.YtlbghdiebjldjaaGreatDoor.Route Go.Proofs.YtlbghdiebjldjaaGreatDoor.When Go.Proofs.YtlbghdiebjldjaaGreatDoor.Load Go.Proofs.YtlbghdiebjldjaaGreatDoor.Ins
set_option linter.unusedVariables false
structure Grew (D D' : Nat → Prop) (W W' : World) : Prop where
 up : ∀ k, D k → D' k
 new : ∀ k, D' k → D k ∨ W.heap.size ≤ k
 lt : ∀ k, D' k → k < W'.heap.size
theorem Grew.same {D : Nat → Prop} {W W' : World} (h : ∀ k, D k → k < W.heap.size) (hs : W.heap.size ≤ W'.heap.size) : Grew D D W W' := ⟨fun _ h => h, fun _ h => .inl h, fun k hd => Nat.lt_of_lt_of_le (h k hd) hs⟩
theorem RefAt.went {D D' E : Nat → Prop} {lo : Nat} {W W' : World} {p gr : Nat} {vf vt : Value} {cap : Nat} {us : List Value} {S : St} (h : RefAt D lo W p gr vf vt cap us S) (hc : Chg E W W') (hE : ∀ k, E k → D k ∧ k ≠ gr) (hg : Grew D D' W W') : RefAt D' lo W' p gr vf vt cap us S := by
 have h1 := h.chg hc hE
 have hp := h.box.inside
 have hm : ∀ {v : Value} {m : Nat} {rows : List (List Value)}, RowD D W v m rows → RowD D' W' v m rows := fun hr => (hr.more (fun k hk => hg.new k hk)).chg hc (fun k hk => hg.up k (hE k hk).1)
 exact ⟨h1.box, hm h.vs, hm h.t, h1.own, fun i u l hu hl => hm (h.rows i u l hu hl), fun hd => (hg.new p hd).elim h.pd (fun hk => by omega), hg.up gr h.gd, hg.lt⟩
theorem RefAt.rws {D : Nat → Prop} {lo : Nat} {W : World} {p gr : Nat} {vf vt : Value} {cap : Nat} {us : List Value} {S : St} (h : RefAt D lo W p gr vf vt cap us S) : Rws W.heap.size W (.slice (some ⟨gr, 0, none⟩) S.rows.length cap) S.rows := by
 refine ⟨us, h.len, ?_, fun i u l hu hl => (h.rows i u l hu hl).1⟩
 exact RowB.of_owns (by have := h.own; rwa [show us = (us.map fun u => [u]).flatten by simp [List.flatten_eq_flatMap, List.flatMap_map]] at this) (by simp [h.len]) (fun r hr => by obtain ⟨s, _, rfl⟩ := List.mem_map.1 hr; rfl) (Nat.le_refl _)
def RwsO (M : Nat) (W : World) (v : Value) (us : List Value) (ls : List (List (Int × Int))) : Prop :=
 W.ownsRow M 59 1 v ls.length us ∧ ∀ (i : Nat) u l, us[i]? = some u → ls[i]? = some l → W.ownsRow M 75 2 u l.length (flatS l)
theorem RwsO.rws {M : Nat} {W : World} {v : Value} {us : List Value} {ls : List (List (Int × Int))} (h : RwsO M W v us ls) : Rws W.heap.size W v ls := by
 have hl : us.length = ls.length := by have := h.1.1; omega
 refine ⟨us, hl, ?_, fun i u l hu hl2 => Row.of_owns (h.2 i u l hu hl2) rfl (Nat.le_refl _)⟩
 exact RowB.of_owns (by have := h.1; rwa [show us = (us.map fun u => [u]).flatten by simp [List.flatten_eq_flatMap, List.flatMap_map]] at this) (by simp [hl]) (fun r hr => by obtain ⟨s, _, rfl⟩ := List.mem_map.1 hr; rfl) (Nat.le_refl _)
def tourV (v : Vh) (u : Value) : List Value := [.int .i64 v.hx, .int .i64 v.hy, .int .i64 v.cp, .int .i64 v.st, .int .i64 v.en, u]
def toursF : List Vh → List Value → List Value
 | v :: vs, u :: us => tourV v u ++ toursF vs us
 | _, _ => []
theorem toursF_get : ∀ {vs : List Vh} {us : List Value} {i : Nat} {v : Vh} {u : Value}, vs[i]? = some v → us[i]? = some u → ∀ k x, (tourV v u)[k]? = some x → (toursF vs us)[i * 6 + k]? = some x
 | [], _, i, v, u, h, _, _, _, _ => by simp at h
 | _ :: _, [], i, v, u, _, h, _, _, _ => by simp at h
 | v0 :: vs, u0 :: us, 0, v, u, hv, hu, k, x, hk => by
  simp at hv hu
  subst hv; subst hu
  have hl : k < (tourV v0 u0).length := (List.getElem?_eq_some_iff.1 hk).1
  show (tourV v0 u0 ++ toursF vs us)[0 * 6 + k]? = some x
  rw [Nat.zero_mul, Nat.zero_add, List.getElem?_append_left hl]
  exact hk
 | v0 :: vs, u0 :: us, i + 1, v, u, hv, hu, k, x, hk => by
  simp at hv hu
  have := toursF_get hv hu k x hk
  show (tourV v0 u0 ++ toursF vs us)[(i + 1) * 6 + k]? = some x
  rw [List.getElem?_append_right (by simp [tourV]; omega)]
  have e : (i + 1) * 6 + k - (tourV v0 u0).length = i * 6 + k := by simp [tourV]; omega
  rw [e]
  exact this
theorem toursF_set : ∀ {vs : List Vh} {us : List Value} {i : Nat} (u : Value), i < vs.length → i < us.length → (toursF vs us).set (i * 6 + 5) u = toursF vs (us.set i u)
 | [], _, i, u, h, _ => by simp at h
 | _ :: _, [], i, u, _, h => by simp at h
 | v0 :: vs, u0 :: us, 0, u, _, _ => by simp [toursF, tourV]
 | v0 :: vs, u0 :: us, i + 1, u, hv, hu => by
  have := toursF_set (vs := vs) (us := us) (i := i) u (by simpa using hv) (by simpa using hu)
  show (tourV v0 u0 ++ toursF vs us).set ((i + 1) * 6 + 5) u = tourV v0 u0 ++ toursF vs (us.set i u)
  rw [← this, List.set_append_right _ _ (by simp [tourV]; omega)]
  have e : (i + 1) * 6 + 5 - (tourV v0 u0).length = i * 6 + 5 := by simp [tourV]; omega
  rw [e]
theorem toursF_snoc : ∀ {vs : List Vh} {us : List Value} (v : Vh) (u : Value), us.length = vs.length → toursF (vs ++ [v]) (us ++ [u]) = toursF vs us ++ tourV v u
 | [], [], v, u, _ => by simp [toursF]
 | [], _ :: _, _, _, h => by simp at h
 | _ :: _, [], _, _, h => by simp at h
 | v0 :: vs, u0 :: us, v, u, h => by
  have := toursF_snoc (vs := vs) (us := us) v u (by simpa using h)
  simp [toursF, this]
theorem toursF_one : ∀ {vs : List Vh} {us : List Value}, (∀ u ∈ us, u.oneCell' = true) → ∀ x ∈ toursF vs us, x.oneCell' = true
 | [], _, _, x, hx => by simp [toursF] at hx
 | _ :: _, [], _, x, hx => by simp [toursF] at hx
 | v :: vs, u :: us, h, x, hx => by
  simp only [toursF, tourV, List.mem_append, List.mem_cons, List.not_mem_nil, or_false] at hx
  rcases hx with (rfl | rfl | rfl | rfl | rfl | rfl) | hx
  · rfl
  · rfl
  · rfl
  · rfl
  · rfl
  · exact h _ (by simp)
  · exact toursF_one (fun u hu => h u (by simp [hu])) x hx
def whO (S : St) (r : Int) : Option Int := if 0 ≤ whereV S.rows r then some (whereV S.rows r) else none
theorem whO_some {S : St} {r : Int} (h : 0 ≤ whereV S.rows r) : whO S r = some (whereV S.rows r) := if_pos h
theorem whO_none {S : St} {r : Int} (h : ¬ 0 ≤ whereV S.rows r) : whO S r = none := if_neg h
theorem whO_is {S : St} {r : Int} : (whO S r).isSome = true ↔ 0 ≤ whereV S.rows r := by
 unfold whO
 split
 · rename_i h; simpa using h
 · rename_i h
   simp only [Option.isSome_none, Bool.false_eq_true, false_iff]
   exact h
theorem Ok.inT {S : St} (h : Ok S) {r : Int} (hw : 0 ≤ whereV S.rows r) : 0 ≤ r ∧ r < S.t.length := by
 obtain ⟨i, l, e, h1, h2, -⟩ := where_some hw
 have hi : i < S.vs.length := by rw [← h.len]; exact (List.getElem?_eq_some_iff.1 h1).1
 have hd := (h.dr i S.vs[i] l (List.getElem?_eq_getElem hi) h1).1
 have : ∃ s ∈ l, s.1 = r := by
  apply Classical.byContradiction
  intro hc
  have := noR_iff (r := r) (l := l).2 (fun s hs e => hc ⟨s, hs, e⟩)
  rw [this] at h2; cases h2
 obtain ⟨s, hs, rfl⟩ := this
 exact ⟨((isR_iff.1 hd.hl) s hs).1, hd.hr s hs⟩
theorem whO_in {S : St} (h : Ok S) : ∀ r, (whO S r).isSome = true → 0 ≤ r ∧ r < (1000 : Nat) := fun r hr => by
 have h1 := h.inT (whO_is.1 hr)
 have := h.tl
 omega
theorem whO_tight {S : St} (h : Ok S) {W : World} {b n : Nat} (hm : MapAt W b n (whO S)) : MapAt W b 1000 (whO S) := map_tight hm (whO_in h)
structure ProgAt (D G : Nat → Prop) (W : World) (p gt gm : Nat) (vt : Value) (cap : Nat) (us : List Value) (S : St) : Prop where
 box : At W p 83 #[.slice (some ⟨gt, 0, none⟩) S.vs.length cap, vt, .map (some gm)]
 t : RowD D W vt 10 (S.t.map rqV)
 own : W.ownsRow 0 86 6 (.slice (some ⟨gt, 0, none⟩) S.vs.length cap) S.vs.length (toursF S.vs us)
 ulen : us.length = S.vs.length
 rows : ∀ (i : Nat) u l, us[i]? = some u → S.rows[i]? = some l → RowD D W u 2 (l.map stV)
 map : MapAt W gm 1000 (whO S)
 pd : ¬ D p
 gT : G gt
 gM : G gm
 sub : ∀ k, G k → D k
 lt : ∀ k, D k → k < W.heap.size
section
variable {D G : Nat → Prop} {W W' : World} {p gt gm : Nat} {vt : Value} {cap : Nat} {us : List Value} {S : St}
theorem ProgAt.chg {E : Nat → Prop} (h : ProgAt D G W p gt gm vt cap us S) (hc : Chg E W W') (hE : ∀ k, E k → D k ∧ ¬ G k) : ProgAt D G W' p gt gm vt cap us S :=
 ⟨hc.at_ h.box (fun he => h.pd (hE p he).1), h.t.chg hc (fun k he => (hE k he).1), hc.owns h.own (fun g e he => by simp [Value.ownBlock] at e; exact (hE g he).2 (e ▸ h.gT)), h.ulen,
  fun i u l hu hl => (h.rows i u l hu hl).chg hc (fun k he => (hE k he).1), h.map.same (hc.block gm h.map.inside (fun he => (hE gm he).2 h.gM)), h.pd, h.gT, h.gM, h.sub, fun k hd => Nat.lt_of_lt_of_le (h.lt k hd) hc.size⟩
theorem ProgAt.grow {D' : Nat → Prop} (h : ProgAt D G W p gt gm vt cap us S) (hb : Below W.heap.size W W') (hg : Grew D D' W W') : ProgAt D' G W' p gt gm vt cap us S := by
 have h1 := h.chg (E := fun _ => False) (Chg.of_below hb) (fun k he => he.elim)
 have hm : ∀ {v : Value} {m : Nat} {rows : List (List Value)}, RowD D W v m rows → RowD D' W' v m rows := fun hr => (hr.more (fun k hk => hg.new k hk)).chg (E := fun _ => False) (Chg.of_below hb) (fun k he => he.elim)
 have hp := h.box.inside
 exact ⟨h1.box, hm h.t, h1.own, h.ulen, fun i u l hu hl => hm (h.rows i u l hu hl), h1.map, fun hd => (hg.new p hd).elim h.pd (fun hk => by omega), h.gT, h.gM, fun k hk => hg.up k (h.sub k hk), hg.lt⟩
theorem ProgAt.on (h : ProgAt D G W p gt gm vt cap us S) (hb : Below W.heap.size W W') : ProgAt D G W' p gt gm vt cap us S := h.chg (E := fun _ => False) (Chg.of_below hb) (fun k he => he.elim)
theorem ProgAt.gtIn (h : ProgAt D G W p gt gm vt cap us S) : gt < W.heap.size := (World.ownsRow.lt h.own gt rfl).2
theorem ProgAt.bd (h : ProgAt D G W p gt gm vt cap us S) : S.vs.length ≤ cap ∧ cap ≤ maxLen := by
 obtain ⟨hl, ⟨h1, _⟩ | ⟨g, c, cur, e, hb, hg, hc1, hc2, hs, ht⟩⟩ := h.own
 · cases h1
 · cases e; exact ⟨hc1, hc2⟩
theorem ProgAt.cells (h : ProgAt D G W p gt gm vt cap us S) {i : Nat} {v : Vh} (hv : S.vs[i]? = some v) : ∃ u, us[i]? = some u ∧
 W.cell? ⟨gt, i * 6, none⟩ = some (.int .i64 v.hx) ∧ W.cell? ⟨gt, i * 6 + 1, none⟩ = some (.int .i64 v.hy) ∧ W.cell? ⟨gt, i * 6 + 2, none⟩ = some (.int .i64 v.cp) ∧ W.cell? ⟨gt, i * 6 + 3, none⟩ = some (.int .i64 v.st) ∧ W.cell? ⟨gt, i * 6 + 4, none⟩ = some (.int .i64 v.en) ∧ W.cell? ⟨gt, i * 6 + 5, none⟩ = some u := by
 have hi := (List.getElem?_eq_some_iff.1 hv).1
 have hu : us[i]? = some (us[i]'(by rw [h.ulen]; exact hi)) := List.getElem?_eq_getElem _
 refine ⟨_, hu, ?_⟩
 have hc : ∀ k x, k < 6 → (tourV v (us[i]'(by rw [h.ulen]; exact hi)))[k]? = some x → W.cell? ⟨gt, i * 6 + k, none⟩ = some x := fun k x hk hx => by
  rw [h.own.cellAt (i * 6 + k) (by omega)]
  exact toursF_get hv hu k x hx
 exact ⟨hc 0 _ (by decide) rfl, hc 1 _ (by decide) rfl, hc 2 _ (by decide) rfl, hc 3 _ (by decide) rfl, hc 4 _ (by decide) rfl, hc 5 _ (by decide) rfl⟩
theorem ProgAt.set (h : ProgAt D G W p gt gm vt cap us S) {i : Nat} (hi : i < S.vs.length) {u : Value} {m : List (Int × Int)} (hm : RowD D W u 2 (m.map stV)) (hr : S.rows.length = S.vs.length) :
 At (W.setCell ⟨gt, i * 6 + 5, none⟩ u) p 83 #[.slice (some ⟨gt, 0, none⟩) S.vs.length cap, vt, .map (some gm)] ∧ RowD D (W.setCell ⟨gt, i * 6 + 5, none⟩ u) vt 10 (S.t.map rqV) ∧
 (W.setCell ⟨gt, i * 6 + 5, none⟩ u).ownsRow 0 86 6 (.slice (some ⟨gt, 0, none⟩) S.vs.length cap) S.vs.length (toursF S.vs (us.set i u)) ∧
 (∀ (j : Nat) u' l, (us.set i u)[j]? = some u' → (S.rows.set i m)[j]? = some l → RowD D (W.setCell ⟨gt, i * 6 + 5, none⟩ u) u' 2 (l.map stV)) ∧
 (gt ≠ gm → MapAt (W.setCell ⟨gt, i * 6 + 5, none⟩ u) gm 1000 (whO S)) := by
 have hc : Chg (fun k => k = gt) W (W.setCell ⟨gt, i * 6 + 5, none⟩ u) := Chg.set (D := fun k => k = gt) W (g := gt) rfl (i * 6 + 5) u
 have hE : ∀ k, k = gt → D k := fun k e => by rw [e]; exact h.sub _ h.gT
 have hlu : i < us.length := by rw [h.ulen]; exact hi
 refine ⟨hc.at_ h.box (fun e => h.pd (hE _ e)), h.t.chg hc hE, ?_, ?_, fun hne => h.map.same (hc.block gm h.map.inside (fun e => hne e.symm))⟩
 · have := (h.own.stored (i * 6 + 5) u).1
   rw [toursF_set u hi hlu] at this
   exact this
 · intro j u' l' hu' hl'
   rcases set_get hlu hu' with ⟨rfl, rfl⟩ | ⟨hj, h1⟩
   · rcases set_get (by rw [hr]; exact hi) hl' with ⟨_, rfl⟩ | ⟨h2, _⟩
     · exact hm.chg hc hE
     · exact absurd rfl h2
   · rcases set_get (by rw [hr]; exact hi) hl' with ⟨h2, _⟩ | ⟨_, h2⟩
     · exact absurd h2 hj
     · exact (h.rows j u' l' h1 h2).chg hc hE
end
theorem map_ne {W : World} {g b n : Nat} {t : TypeId} {cs : Array Value} {f : Int → Option Int} (h1 : W.heap[g]? = some (.cells cs t (0, 0))) (h2 : MapAt W b n f) : g ≠ b := by
 rintro rfl
 obtain ⟨D, ⟨es, clock, hb, _⟩, _⟩ := h2
 have e := h1.symm.trans hb
 cases e
theorem own_map_ne {W : World} {base size n b m : Nat} {t : TypeId} {v : Value} {xs : List Value} {f : Int → Option Int} (h1 : W.ownsRow base t size v n xs) (h2 : MapAt W b m f) : v.ownBlock ≠ some b := by
 intro e2
 obtain ⟨-, ⟨rfl, -⟩ | ⟨g2, c2, cur2, rfl, -, hg2, -⟩⟩ := h1
 · cases e2
 simp only [Value.ownBlock, Option.some.injEq] at e2
 exact map_ne hg2 h2 e2
def PlanAt (D G : Nat → Prop) (W : World) (p : Nat) (S : St) : Prop := ∃ (gt gm : Nat) (vt : Value) (cap : Nat) (us : List Value), ProgAt D G W p gt gm vt cap us S
theorem PlanAt.chg {D G E : Nat → Prop} {W W' : World} {p : Nat} {S : St} (h : PlanAt D G W p S) (hc : Chg E W W') (hE : ∀ k, E k → D k ∧ ¬ G k) : PlanAt D G W' p S := by
 obtain ⟨gt, gm, vt, cap, us, h⟩ := h
 exact ⟨gt, gm, vt, cap, us, h.chg hc hE⟩
theorem PlanAt.grow {D D' G : Nat → Prop} {W W' : World} {p : Nat} {S : St} (h : PlanAt D G W p S) (hb : Below W.heap.size W W') (hg : Grew D D' W W') : PlanAt D' G W' p S := by
 obtain ⟨gt, gm, vt, cap, us, h⟩ := h
 exact ⟨gt, gm, vt, cap, us, h.grow hb hg⟩
theorem PlanAt.sub {D G : Nat → Prop} {W : World} {p : Nat} {S : St} (h : PlanAt D G W p S) : ∀ k, G k → D k := by
 obtain ⟨gt, gm, vt, cap, us, h⟩ := h
 exact h.sub
theorem PlanAt.lt {D G : Nat → Prop} {W : World} {p : Nat} {S : St} (h : PlanAt D G W p S) : ∀ k, D k → k < W.heap.size := by
 obtain ⟨gt, gm, vt, cap, us, h⟩ := h
 exact h.lt
theorem ProgAt.made {M : Nat} {W : World} {p gt gm n : Nat} {vt : Value} {cap : Nat} {us : List Value} {S : St} (hp : At W p 83 #[.slice (some ⟨gt, 0, none⟩) S.vs.length cap, vt, .map (some gm)]) (hpM : M ≤ p)
 (ht : W.ownsRow M 72 10 vt S.t.length (flatQ S.t)) (ho : W.ownsRow M 86 6 (.slice (some ⟨gt, 0, none⟩) S.vs.length cap) S.vs.length (toursF S.vs us)) (hl : us.length = S.vs.length)
 (hr : ∀ (i : Nat) u l, us[i]? = some u → S.rows[i]? = some l → W.ownsRow M 75 2 u l.length (flatS l)) (hm : MapAt W gm n (whO S)) (hmM : M ≤ gm) (hn : n ≤ 1000)
 {D : Nat → Prop} (hD : ∀ k, D k → k = gt ∨ k = gm ∨ k < M) (hT : D gt) (hMm : D gm) : ProgAt D (fun k => k = gt ∨ k = gm) W p gt gm vt cap us S := by
 have hgt := World.ownsRow.lt ho gt rfl
 have off : ∀ {v : Value} {e : TypeId} {size n : Nat} {xs : List Value}, W.ownsRow M e size v n xs → e ≠ 86 → Off D v := fun h1 hne g e hd => by
  rcases hD g hd with rfl | rfl | hk
  · exact own_ne h1 ho hne g e rfl
  · exact own_map_ne h1 hm e
  · have := (World.ownsRow.lt h1 g e).1; omega
 refine ⟨hp, ⟨RowB.of_owns ht (by simp) (fun r hr => by obtain ⟨s, _, rfl⟩ := List.mem_map.1 hr; rfl) (Nat.le_refl _), fun _ => off ht (by decide)⟩, owns_more ho (Nat.zero_le _), hl, fun i u l hu hl2 => ⟨Row.of_owns (hr i u l hu hl2) rfl (Nat.le_refl _), fun _ => off (hr i u l hu hl2) (by decide)⟩, hm.more hn, fun hd => ?_, .inl rfl, .inr rfl, fun k hk => hk.elim (fun e => by rw [e]; exact hT) (fun e => by rw [e]; exact hMm), fun k hd => ?_⟩
 · rcases hD p hd with e | e | e
   · exact own_at_ne hp ho (by decide) (by rw [e]; rfl)
   · exact map_ne hp hm e
   · omega
 · rcases hD k hd with rfl | rfl | e
   · exact hgt.2
   · exact hm.inside
   · omega
end Go.Proofs.YtlbghdiebjldjaaGreatDoor.Plan

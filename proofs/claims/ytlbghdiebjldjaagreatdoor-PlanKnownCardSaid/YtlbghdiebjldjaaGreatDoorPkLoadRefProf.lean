import Derived.Test.YtlbghdiebjldjaaGreatDoorPkLoadRef

namespace Go.Proofs.YtlbghdiebjldjaaGreatDoor.Load
open Go.RowKit Go.Sort Go.Proofs.YtlbghdiebjldjaaGreatDoor.Mem Go.Proofs.YtlbghdiebjldjaaGreatDoor.Route Go.Proofs.YtlbghdiebjldjaaGreatDoor.When
set_option linter.unusedVariables false
theorem ret_uv {u : Value} {a b : Int} (h : a = b) : Ending.returned (.tuple #[u, .int .i64 a]) = .returned (.tuple #[u, .int .i64 b]) := by rw [h]
theorem ret_2i {a b c d : Int} (h : a = b) (h2 : c = d) : Ending.returned (.tuple #[.int .i64 a, .int .i64 c]) = .returned (.tuple #[.int .i64 b, .int .i64 d]) := by rw [h, h2]
theorem opAt_of {l : List (Int × Int)} {k : Nat} (h : k ≤ l.length) : opAt l (k : Int) = opL (l.take k) := by
 unfold opAt kN
 rw [show (min (max (k : Int) 0) (l.length : Int)).toNat = k by omega]
theorem prof_next {t : List Rq} {l : List (Int × Int)} {k : Nat} (h : k < l.length) : (prof t l).take (k + 1) = (prof t l).take k ++ [acc t (l.take (k + 1))] := takeA (prof_get h)
theorem open_get {l : List (Int × Int)} {t : List Rq} (h : toldV l t = 0) {k : Nat} {r : Int} (hr : r ∈ opL (l.take k)) : ∃ q : Rq, t[r.toNat]? = some q ∧ 0 ≤ r ∧ r < t.length ∧ 1 ≤ q.ld ∧ q.ld ≤ 1000 := by
 obtain ⟨s, hs, rfl⟩ := opL_of hr
 obtain ⟨q, hq, h1, h2, h3, _⟩ := (told_bits h).2.2 s (List.mem_of_mem_take hs)
 exact ⟨q, hq, h1, h2, h3⟩
theorem sum_take_bd {l : List (Int × Int)} {t : List Rq} (h : toldV l t = 0) (k j : Nat) : 0 ≤ sumL t ((opL (l.take k)).take j) ∧ sumL t ((opL (l.take k)).take j) ≤ 16000 := by
 have h1 := sumL_bd (t := t) (o := (opL (l.take k)).take j) (fun r hr => by have := open_bd h k r (List.mem_of_mem_take hr); omega)
 have h2 := open_len h k
 have h3 : ((opL (l.take k)).take j).length ≤ (opL (l.take k)).length := by rw [List.length_take]; omega
 omega
set_option maxRecDepth 100000 in
set_option maxHeartbeats 4000000 in
theorem refProfile_any (vl vt : Value) (l : List (Int × Int)) (t : List Rq) (hl : l.length ≤ 1000000) (w : World) (hL : Row w.heap.size w vl l) (hT : Rqs w.heap.size w vt t) :
 Calls Tryz.prog 145 #[vl, vt] w fun e w' => (∃ u, e = .returned (.tuple #[u, .int .i64 (toldV l t)]) ∧ Ints w'.heap.size w' u (profV l t)) ∧ Below w.heap.size w w' := by
 obtain ⟨i0, hi, hz0, hz1, hz2⟩ := info_parts info_int
 have hR := refTold_any vl vt l t hl w hL hT
 have hOp := Lib.hid (fun (k : Int) (w1 : World) (hb : Below w.heap.size w w1) => refOpen_any vl l hl k w1 (hL.on hb))
 obtain ⟨xl, Nl, capl, rfl, hNl, hl0, hlc1, hlc2⟩ := hL.opened
 obtain ⟨xt, Nt, capt, rfl, hNt0, htc1, htc2, ht0⟩ := hT.opened
 have hNt := Lib.hid hNt0
 unfold maxLen at htc2 hlc2
 have hT' := Lib.hid hT
 have hNl1 : Nl ≤ 1000000 := by rw [hNl.out] at hl; exact hl
 obtain ⟨E, hE⟩ : ∃ E, toldV l t = E := ⟨_, rfl⟩
 rw [hE] at hR ⊢
 have hE' := Lib.hid hE
 clear hl hL hT hNt0 ht0 hE
 go_enter Tryz.func145, Tryz.ntmps145
 go_wp2_with fail
 refine hR.mono ?_
 clear hR
 rintro e w1 ⟨rfl, hB1⟩
 cases he0 : (E == 0)
 · have he1 : (E != 0) = true := by simpa using he0
   have hw : Hid (profV l t = []) := Lib.hid (by
    unfold profV
    rw [if_neg (by rw [hE'.out]; simpa using he0)])
   go_wp2
   refine bodyPost_ret (v := .tuple #[.slice none 0 0, .int .i64 E]) (by simp [results, Tryz.results145, go_sem]) rfl ?_
   exact ⟨⟨_, rfl, by rw [hw.out]; exact RowB.nil _ _ _⟩, hB1⟩
 · have he1 : (E != 0) = false := by simpa using he0
   have hez : Hid (E = 0) := Lib.hid (by simpa using he0)
   have htz : Hid (toldV l t = 0) := Lib.hid (hE'.out.trans hez.out)
   have hpv : Hid (profV l t = prof t l) := Lib.hid (by unfold profV; rw [if_pos htz.out])
   have hlenP : Hid ((prof t l).length = Nl) := Lib.hid (by rw [prof_length, hNl.out])
   go_wp2
   go_loopw [7, 8] (fun u i wr => ∃ k : Nat, k ≤ Nl ∧ i = .int .i64 k ∧ wr.ownsRow w.heap.size 3 1 u k (flatI ((prof t l).take k)) ∧ Below w.heap.size w wr)
    (fun _ i _ => Nl - (intOf i).toNat)
   case atStart => exact ⟨0, by omega, rfl, by simpa [flatI] using World.ownsRow_nil _ _ _ _, hB1⟩
   case round =>
    obtain ⟨k, hk, rfl, hown, hbw⟩ := hrel
    clear hB1
    have hsz := hbw.size
    by_cases hlt : k < Nl
    · have hnx := Lib.hid (prof_next (t := t) (l := l) (k := k) (by rw [hNl.out]; exact hlt))
      have hacc := Lib.hid (acc_open t (told_bits htz.out).1 (k + 1) (by rw [hNl.out]; exact hlt))
      have hop := hOp.out ((k : Int) + 1) wr hbw
      rw [show (k : Int) + 1 = ((k + 1 : Nat) : Int) by omega, opAt_of (by rw [hNl.out]; exact hlt)] at hop
      have hget := Lib.hid (fun r hr => open_get (k := k + 1) (r := r) htz.out hr)
      have hsb := Lib.hid (fun j => sum_take_bd htz.out (k + 1) j)
      have holn := Lib.hid (open_len htz.out (k + 1))
      obtain ⟨O, hO⟩ : ∃ O, opL (l.take (k + 1)) = O := ⟨_, rfl⟩
      rw [hO] at hop hacc holn
      simp only [hO] at hget hsb
      clear hO
      rw [show ((k + 1 : Nat) : Int) = (k : Int) + 1 by omega] at hop
      go_wp2_with fail
      refine hop.mono ?_
      clear hop
      rintro e w2 ⟨⟨v2, rfl, hv2⟩, hb2⟩
      have hv2' := Lib.hid hv2
      have hB2 := hbw.trans (hb2.mono hsz)
      have hown2 := owns_below hown hb2
      obtain ⟨xo, M, co, rfl, hM, hoc1, hoc2⟩ := hv2.opened
      unfold maxLen at hoc2
      clear hv2 hb2 hown hbw
      go_wp2
      go_loopw [10, 11] (fun a i wq => ∃ j : Nat, j ≤ M ∧ i = .int .i64 j ∧ a = .int .i64 (sumL t (O.take j)) ∧ wq = w2)
       (fun _ i _ => M - (intOf i).toNat)
      case atStart => exact ⟨0, by omega, rfl, by simp [sumL], rfl⟩
      case round =>
       obtain ⟨j, hj, rfl, rfl, rfl⟩ := hrel
       by_cases hlt2 : j < M
       · obtain ⟨r, hr⟩ : ∃ r, O[j]? = some r := ⟨O[j]'(by rw [hM.out]; exact hlt2), List.getElem?_eq_getElem _⟩
         obtain ⟨g, o, rfl, hg, c0⟩ := Ints.number hv2'.out hr
         obtain ⟨q, hq, h1, h2, h3, h4⟩ := hget.out r (List.mem_of_getElem? hr)
         have hsn : Hid (sumL t (O.take (j + 1)) = sumL t (O.take j) + q.ld) := Lib.hid (by rw [takeA hr, sumL_snoc, ldR_get hq])
         obtain ⟨b1, b2⟩ := hsb.out j
         clear hr
         obtain ⟨n, rfl⟩ : ∃ n : Nat, r = n := ⟨r.toNat, by omega⟩
         simp only [Int.toNat_natCast] at hq
         obtain ⟨g2, o2, rfl, hg2, d0, d1, d2, d3, d4, d5, d6, d7, d8, d9⟩ := Rqs.at (hT'.out.keep hB2 (Nat.le_refl _)) hq
         have hnt : n < Nt := by have := (List.getElem?_eq_some_iff.1 hq).1; rw [hNt.out] at this; exact this
         obtain ⟨S, hS⟩ : ∃ S, sumL t (O.take j) = S := ⟨_, rfl⟩
         rw [hS] at b1 b2 hsn ⊢
         obtain ⟨d, hd⟩ : ∃ d, q.ld = d := ⟨_, rfl⟩
         rw [hd] at h3 h4 d8 hsn
         clear hq hS hd d0 d1 d2 d3 d4 d5 d6 d7 d9
         go_wp2
         go_roundw
         case rel => exact ⟨j + 1, by omega, by go_num, by rw [hsn.out], trivial⟩
         case measure => simp [intOf]; omega
       · obtain rfl : j = M := by omega
         have he : sumL t (O.take j) = acc t (l.take (k + 1)) := by rw [hacc.out, ← hM.out, List.take_length]
         rw [he]
         obtain ⟨A, hA⟩ : ∃ A, acc t (l.take (k + 1)) = A := ⟨_, rfl⟩
         rw [hA] at hnx ⊢
         clear he hA
         go_wp2_with (at_builtin; go_loud (refine wpList_append_own _ rfl _ _ 66 rfl w.heap.size 3 i0 (.int .i64 0) 1 8 Tryz.underlying66 hi hz0 hz1 hz2 rfl (by decide) _ _ _ rfl (hown2.alloc _) ⟨wr.heap.size, 0, none⟩ 1 1 [.int .i64 A] rfl rfl (cell_one_new _ _ _) (by simp [Value.oneCell']) (by unfold maxLen; omega) (by omega) (by have := hB2.size; simp; omega) ?_); intro v7 w7 hown7 hgrow7 hnil7)
         have hB7 := (hB2.alloc hB2.size (.cells #[.int .i64 A] 3)).grown hgrow7 (by have := hB2.size; simp; omega) (fun r e => by have := owns_row hown2 _ e; omega)
         go_roundw
         case rel => exact ⟨k + 1, by omega, by go_num, by rw [hnx.out, flatI_snoc]; exact hown7, hB7⟩
         case measure => simp [intOf]; omega
    · obtain rfl : k = Nl := by omega
      have hpi : Hid (Ints wr.heap.size wr u7 (profV l t)) := Lib.hid (by
       rw [hpv.out]
       rw [← hlenP.out, List.take_length] at hown
       exact Ints.of_owns hown rfl (Nat.le_refl _))
      clear hown
      go_wp2
      refine bodyPost_ret (v := .tuple #[_, .int .i64 0]) (by simp [results, Tryz.results145, go_sem]; exact rfl) rfl ?_
      exact ⟨⟨_, ret_uv hez.out.symm, hpi.out⟩, hbw⟩
theorem fit_at {v : Vh} {l : List (Int × Int)} {t : List Rq} (hv : v.chk = 0) {k : Nat} {x : Int} (hx : (profV l t)[k]? = some x) (h : ∀ y ∈ (profV l t).take k, y ≤ v.cp) (hc : v.cp < x) : fitAt v l t = k ∧ fitE v l t = 10 := by
 have h0 : toldV l t = 0 := by
  rcases Int.lt_trichotomy (toldV l t) 0 with h1 | h1 | h1
  · unfold profV at hx; rw [if_neg (by omega)] at hx; simp at hx
  · exact h1
  · unfold profV at hx; rw [if_neg (by omega)] at hx; simp at hx
 obtain ⟨hlt, he⟩ := List.getElem?_eq_some_iff.1 hx
 have hs : profV l t = (profV l t).take k ++ x :: (profV l t).drop (k + 1) := by rw [← he, ← List.drop_eq_getElem_cons hlt, List.take_append_drop]
 unfold fitAt fitE
 rw [if_pos hv, if_neg (by omega), if_neg (by omega)]
 constructor
 · unfold fstV
   rw [hs, fstF_at hc (by simpa using h), List.length_take]
   omega
 · rw [if_pos]
   unfold moreB
   exact any_yes hx (by simpa using hc)
theorem fit_none {v : Vh} {l : List (Int × Int)} {t : List Rq} (hv : v.chk = 0) (h : ∀ y ∈ profV l t, y ≤ v.cp) : fitAt v l t = -1 ∧ fitE v l t = toldV l t := by
 unfold fitAt fitE
 rw [if_pos hv, if_neg (by omega)]
 refine ⟨fstF_no h, ?_⟩
 split
 · rfl
 · rename_i h0
   rw [if_neg]
   · omega
   · unfold moreB
     rw [List.any_eq_true]
     rintro ⟨x, hx, hc⟩
     have := h x hx
     simp at hc
     omega
set_option maxRecDepth 100000 in
set_option maxHeartbeats 4000000 in
theorem refFits_any (v : Vh) (vl vt : Value) (l : List (Int × Int)) (t : List Rq) (hl : l.length ≤ 1000000) (w : World) (hL : Row w.heap.size w vl l) (hT : Rqs w.heap.size w vt t) :
 Calls Tryz.prog 121 #[.agg #[.int .i64 v.hx, .int .i64 v.hy, .int .i64 v.cp, .int .i64 v.st, .int .i64 v.en], vl, vt] w fun e w' => e = .returned (.tuple #[.int .i64 (fitAt v l t), .int .i64 (fitE v l t)]) ∧ Below w.heap.size w w' := by
 have hP := Lib.hid (fun (w1 : World) (hb : Below w.heap.size w w1) => refProfile_any vl vt l t hl w1 (hL.on hb) (hT.on hb))
 obtain ⟨xl, Nl, capl, rfl, hNl, hl0, hlc1, hlc2⟩ := hL.opened
 obtain ⟨xt, Nt, capt, rfl, hNt0, htc1, htc2, ht0⟩ := hT.opened
 have hlenP : (profV l t).length ≤ 1000000 := by
  unfold profV
  split
  · rw [prof_length]; exact hl
  · simp
 have hat := Lib.hid (fun (hv : v.chk = 0) (k : Nat) (x : Int) hx h hc => fit_at (v := v) (l := l) (t := t) hv (k := k) (x := x) hx h hc)
 have hnone := Lib.hid (fun (hv : v.chk = 0) h => fit_none (v := v) (l := l) (t := t) hv h)
 have hcv := Lib.hid (refVeh v)
 obtain ⟨V, hV⟩ : ∃ V, v.chk = V := ⟨_, rfl⟩
 obtain ⟨E, hE⟩ : ∃ E, toldV l t = E := ⟨_, rfl⟩
 obtain ⟨P, hP2⟩ : ∃ P, profV l t = P := ⟨_, rfl⟩
 simp only [hE, hP2] at hP hat hnone
 simp only [hV] at hcv
 rw [hP2] at hlenP
 have hV' := Lib.hid hV
 have hb0 : Below w.heap.size w (w.alloc (.cells #[.int .i64 v.hx, .int .i64 v.hy, .int .i64 v.cp, .int .i64 v.st, .int .i64 v.en] 64)) := (Below.refl _ _).alloc (Nat.le_refl _) _
 have hA := At.new w 64 #[.int .i64 v.hx, .int .i64 v.hy, .int .i64 v.cp, .int .i64 v.st, .int .i64 v.en]
 clear hl hL hT hNt0 ht0 hE hP2 hV
 go_enter Tryz.func121, Tryz.ntmps121
 go_wp2_with fail
 refine (hcv.out _).mono ?_
 rintro e w1 ⟨rfl, hb1⟩
 have hB1 := hb0.trans (hb1.mono hb0.size)
 have hA1 := hA.keep hb1 hA.inside
 clear hb0 hb1 hA
 cases hv0 : (V == 0)
 · have hv1 : (V != 0) = true := by simpa using hv0
   have hw : Hid (fitAt v l t = -1 ∧ fitE v l t = V) := Lib.hid (by
    have h1 : v.chk ≠ 0 := by rw [hV'.out]; simpa using hv0
    unfold fitAt fitE
    rw [if_neg h1, if_pos h1, hV'.out]
    exact ⟨rfl, rfl⟩)
   go_wp2
   refine bodyPost_ret (v := .tuple #[.int .i64 (-1), .int .i64 V]) (by simp [results, Tryz.results121, go_sem]) rfl ?_
   exact ⟨ret_2i hw.out.1.symm hw.out.2.symm, hB1⟩
 · have hv1 : (V != 0) = false := by simpa using hv0
   have hvz : Hid (v.chk = 0) := Lib.hid (by rw [hV'.out]; simpa using hv0)
   go_wp2_with fail
   refine (hP.out _ hB1).mono ?_
   rintro e w2 ⟨⟨u, rfl, hu⟩, hb2⟩
   have hB2 := hB1.trans (hb2.mono hB1.size)
   have hA2 := hA1.keep hb2 hA1.inside
   clear hb2 hB1 hA1
   have hu' := Lib.hid hu
   obtain ⟨xo, M, co, rfl, hM, hoc1, hoc2⟩ := hu.opened
   unfold maxLen at hoc2
   rw [hM.out] at hlenP
   clear hu
   go_wp2
   go_loopw [10] (fun i wr => ∃ k : Nat, k ≤ M ∧ i = .int .i64 k ∧ Hid (∀ y ∈ P.take k, y ≤ v.cp) ∧ Below w2.heap.size w2 wr) (fun i _ => M - (intOf i).toNat)
   case atStart => exact ⟨0, by omega, rfl, Lib.hid (by simp), Below.refl _ _⟩
   case round =>
    obtain ⟨k, hk, rfl, hall, hbw⟩ := hrel
    have hB3 := hB2.trans (hbw.mono hB2.size)
    by_cases hlt : k < M
    · obtain ⟨r, hr⟩ : ∃ r, P[k]? = some r := ⟨P[k]'(by rw [hM.out]; exact hlt), List.getElem?_eq_getElem _⟩
      obtain ⟨g, o, rfl, hg, c0⟩ := Ints.number (hu'.out.keep hbw (Nat.le_refl _)) hr
      have hA3 := hA2.keep hbw hA2.inside
      have c2 := hA3.cell 2
      have hiA := hA3.inside
      simp at c2
      have hr' := Lib.hid hr
      clear hr hA3
      cases hc : decide (v.cp < r)
      · have hall2 : Hid (∀ y ∈ P.take (k + 1), y ≤ v.cp) := Lib.hid (fun y hy => by
         rw [takeA hr'.out] at hy
         rcases List.mem_append.1 hy with hy | hy
         · exact hall.out y hy
         · obtain rfl := List.mem_singleton.1 hy
           simpa using hc)
        clear hall
        go_upto_region 8 with fail
        go_quiet (fail)
        have hbq := Place.below_drewN hbw nq
        go_wp2
        go_roundw
        case rel => exact ⟨k + 1, by omega, by go_num, hall2, hbq⟩
        case measure => simp [intOf]; omega
      · have hw := Lib.hid (hat.out hvz.out k r hr'.out hall.out (by simpa using hc))
        clear hall
        go_upto_region 8 with fail
        go_quiet (fail)
        have hbq := Place.below_drewN hB3 nq
        go_wp2
        refine bodyPost_ret (v := .tuple #[.int .i64 k, .int .i64 10]) (by simp [results, Tryz.results121, go_sem]) rfl ?_
        exact ⟨ret_2i hw.out.1.symm hw.out.2.symm, hbq⟩
    · obtain rfl : k = M := by omega
      have hw := Lib.hid (hnone.out hvz.out (by have := hall.out; rwa [← hM.out, List.take_length] at this))
      clear hall
      go_wp2
      refine bodyPost_ret (v := .tuple #[.int .i64 (-1), .int .i64 E]) (by simp [results, Tryz.results121, go_sem]) rfl ?_
      exact ⟨ret_2i hw.out.1.symm hw.out.2.symm, hB3⟩
end Go.Proofs.YtlbghdiebjldjaaGreatDoor.Load

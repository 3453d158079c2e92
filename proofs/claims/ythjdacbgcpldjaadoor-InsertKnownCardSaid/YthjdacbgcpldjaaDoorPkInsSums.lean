import Derived.Test.YthjdacbgcpldjaaDoorPkInsRightMath
import Derived.Test.YthjdacbgcpldjaaDoorPkInsCase
import Derived.Test.YthjdacbgcpldjaaDoorPkFeasKept
import Derived.Test.YthjdacbgcpldjaaDoorPkRouteAt

/-
  InsertSums returns true, whatever the draft, the order and memory are. Generated: InsSums.gen.py.
-/
namespace Go.Proofs.YthjdacbgcpldjaaDoor.Ins
open Go.RowKit Go.Sort Go.Shelf Go.Proofs.YthjdacbgcpldjaaDoor.Mem Go.Proofs.YthjdacbgcpldjaaDoor.Route Go.Proofs.YthjdacbgcpldjaaDoor.When Go.Proofs.YthjdacbgcpldjaaDoor.Load Go.Proofs.YthjdacbgcpldjaaDoor.Feas
open Go.Proofs.YthjdacbgcpldjaaDoor.Place (distV gap)
set_option linter.unusedVariables false

theorem dist_self (a : Int × Int) : distV a a = 0 := by
  unfold distV gap
  simp
theorem home_none {v : Vh} {t : List Rq} (h : errT v [] t = 0) : homeT v [] t = v.st := by
  rw [homeT_ok h]
  show v.st + distV (v.hx, v.hy) (v.hx, v.hy) = v.st
  rw [dist_self]
  omega
theorem ownsEmpty2 {W : World} {base n : Nat} {e : TypeId} (hn : n = W.heap.size) (hb : base ≤ n) : (W.alloc (.cells #[] e)).ownsRow base e 2 (.slice (some ⟨n, 0, none⟩) 0 0) 0 [] := by
  subst hn
  exact ⟨rfl, .inr ⟨W.heap.size, 0, #[], rfl, hb, heap_alloc_new W _, Nat.le_refl _, Nat.zero_le _, rfl, rfl⟩⟩
theorem row_plain {B : Nat} {W : World} {v : Value} {l : List (Int × Int)} (h : Row B W v l) : Plain v := by
  obtain ⟨x, cap, rfl, h1, h2, h0, _⟩ := h
  cases x with
  | none => have := h0 rfl; exact .inl (by rw [this.2]; simp at this; simp [this.1])
  | some a => exact .inr ⟨a, _, _, rfl⟩

/-- What the law holds: the vehicle, the order, the requests. -/
structure SmAt (w : World) (gv go_ : Nat) (v : Vh) (xs : List Int) (vt : Value) (t : List Rq) (W : World) : Prop where
  v : At W gv 28 #[.int .i64 v.hx, .int .i64 v.hy, .int .i64 v.cp, .int .i64 v.st, .int .i64 v.en]
  o : At W go_ 62 (xs.map (Value.int .u8)).toArray
  t : Rqs W.heap.size W vt t
  sg : Sg W
  b : Below w.heap.size w W
theorem SmAt.on {w W W' : World} {gv go_ : Nat} {v : Vh} {xs : List Int} {vt : Value} {t : List Rq} (h : SmAt w gv go_ v xs vt t W) (hb : Below W.heap.size W W') : SmAt w gv go_ v xs vt t W' :=
  ⟨h.v.keep hb h.v.inside, h.o.keep hb h.o.inside, h.t.on hb, h.sg.on hb, h.b.trans (hb.mono h.b.size)⟩
/-- How far the sum is. -/
structure SmK (v : Vh) (l0 : List (Int × Int)) (t : List Rq) (k : Nat) (l : List (Int × Int)) (sum : Int) : Prop where
  dr : Feas.Dr v l t
  nums : Nums l
  len : l.length + 2 * k ≤ 12
  fault : (faultV v l t).1 = 0
  sum : sum = homeT v l0 t - homeT v l t
theorem SmK.next {v : Vh} {l0 : List (Int × Int)} {t : List Rq} {k : Nat} {l : List (Int × Int)} {sum : Int} (h : SmK v l0 t k l sum) {s : Int × Int} (hs : s ∈ l) :
    riseE v (woL s.1 l) t s.1 (ixV (s.1, 0) l) (ixV (s.1, 1) l - 1) = 0 ∧ (woL s.1 l).length + 2 = l.length ∧ SmK v l0 t (k + 1) (woL s.1 l) (sum + riseV v (woL s.1 l) t s.1 (ixV (s.1, 0) l) (ixV (s.1, 1) l - 1)) := by
  have hlen := h.len
  obtain ⟨h1, h2, h3, h4⟩ := back_rise h.dr (by omega) h.fault hs
  exact ⟨h1, h3, ⟨h.dr.less s.1, nums_wo h.nums, by omega, h4, by rw [h2, h.sum]; omega⟩⟩

set_option maxRecDepth 100000 in
set_option maxHeartbeats 8000000 in
theorem insertSums_any (xb : Option Addr) (Nb cb : Nat) (bs : List Int) (a b c : Int) (xs : List Int) (hxs : xs.length = 6) (hx : ∀ x ∈ xs, 0 ≤ x ∧ x < 256) (w : World) (hsg : Sg w) (hrow : RowB w.heap.size w (.slice xb Nb cb) 1 (bs.map byV)) (hby : ∀ x ∈ bs, 0 ≤ x ∧ x < 256) (ha : 0 ≤ a ∧ a < 256) (hb : 0 ≤ b ∧ b < 256) :
    Calls Tryd.prog 8 #[.agg #[.slice xb Nb cb, .int .u8 a, .int .u8 b, .int .i64 c], .agg (xs.map (Value.int .u8)).toArray] w fun e w' => e = .returned (.bool true) ∧ Below w.heap.size w w' := by
  obtain ⟨i0, hi, hz0, hz1, hz2⟩ := info_parts info_stop
  obtain ⟨q, hq⟩ : ∃ q, w.heap.size = q := ⟨_, rfl⟩
  obtain ⟨w0, hw0⟩ : ∃ w0, (w.alloc (.cells #[.slice xb Nb cb, .int .u8 a, .int .u8 b, .int .i64 c] 24)).alloc (.cells (xs.map (Value.int .u8)).toArray 62) = w0 := ⟨_, rfl⟩
  have hB0 : Below w.heap.size w w0 := by rw [← hw0]; exact ((Below.refl _ _).alloc (Nat.le_refl _) _).alloc (by simp) _
  have hD0 : At w0 q 24 #[.slice xb Nb cb, .int .u8 a, .int .u8 b, .int .i64 c] := by rw [← hw0]; exact (At.new_ _ _ _ hq.symm).alloc _
  have hO0 : At w0 (q + 1) 62 (xs.map (Value.int .u8)).toArray := by rw [← hw0]; exact At.new_ _ _ _ (by simp [hq])
  have hsg0 := hsg.on hB0
  have hw0' := Lib.hid hw0
  have hq' := Lib.hid hq
  have hrow0 := RowB.on hrow hB0
  clear hrow hw0 hq hsg
  go_enter Tryd.func8, Tryd.ntmps8
  go_upto_region 1 with fail
  simp only [hq'.out]
  rw [hw0'.out]
  go_wp2_with fail
  refine (works_any w0 hsg0).mono ?_
  rintro e w1 ⟨rfl, hb1⟩
  have hD1 := hD0.keep hb1 hD0.inside
  have hO1 := hO0.keep hb1 hO0.inside
  have hB1 := hB0.trans (hb1.mono hB0.size)
  have hsg1 := hsg0.on hb1
  have hc := parts_any xb Nb cb bs a b c w1 (RowB.on hrow0 hb1) hby ha hb
  have d0 := hD1.cell 0
  have d1 := hD1.cell 1
  have d2 := hD1.cell 2
  have d3 := hD1.cell 3
  simp at d0 d1 d2 d3
  have hs1 := hD1.inside
  clear hw0' hD0 hO0 hB0 hsg0 hrow0 hb1 hD1 hby ha hb
  go_wp2_with fail
  refine hc.mono ?_
  clear hc d0 d1 d2 d3
  rintro e w2 ⟨⟨v, ul, ut, l, t, rfl, hdv, hL2, hfn, hl12, hT2, ht6, hdt⟩, hb2⟩
  have hDr := dr_of hdv.1 hfn hl12 hdt
  have hnum : Nums l := hfn.1.nums
  obtain ⟨p, hp⟩ : ∃ p, w2.heap.size = p := ⟨_, rfl⟩
  obtain ⟨w3, hw3⟩ : ∃ w3, w2.alloc (.cells #[.int .i64 v.hx, .int .i64 v.hy, .int .i64 v.cp, .int .i64 v.st, .int .i64 v.en] 28) = w3 := ⟨_, rfl⟩
  have hV3 : At w3 p 28 #[.int .i64 v.hx, .int .i64 v.hy, .int .i64 v.cp, .int .i64 v.st, .int .i64 v.en] := by rw [← hw3]; exact At.new_ _ _ _ hp.symm
  have hb3 : Below w2.heap.size w2 w3 := by rw [← hw3]; exact (Below.refl _ _).alloc (Nat.le_refl _) _
  have hO2 := hO1.keep hb2 hO1.inside
  have hL3 := Lib.hid (hL2.on hb3)
  have hS3 : Hid (SmAt w p (q + 1) v xs ut t w3) := Lib.hid ⟨hV3, hO2.keep hb3 hO2.inside, hT2.on hb3, (hsg1.on hb2).on hb3, (hB1.trans (hb2.mono hB1.size)).trans (hb3.mono (Nat.le_trans hB1.size hb2.size))⟩
  obtain ⟨xl, N, cl, rfl, hN, -, hlc1, hlc2⟩ := hL2.opened
  obtain ⟨xt, Nt, ct, rfl, hNt0, htc1, htc2, -⟩ := hT2.opened
  have hw3' := Lib.hid hw3
  have hp' := Lib.hid hp
  have hDr' := Lib.hid hDr
  have hnum' := Lib.hid hnum
  have hl12' := Lib.hid hl12
  have hN12 : N ≤ 12 := by rw [← hN.out]; exact hl12
  have hTi := Times_all v _ _ l t (by omega) hnum w3 hL3.out hS3.out.t
  obtain ⟨E, hE⟩ : ∃ E, errT v l t = E := ⟨_, rfl⟩
  obtain ⟨H, hH⟩ : ∃ H, homeT v l t = H := ⟨_, rfl⟩
  have hHb : 0 ≤ H ∧ H ≤ 3000000 := by rw [← hH]; exact homeT_bd v l t
  rw [hE, hH] at hTi
  have hE' := Lib.hid hE
  have hH' := Lib.hid hH
  clear hL2 hT2 hO1 hO2 hB1 hsg1 hb2 hV3 hb3 hw3 hp hDr hnum hl12 hdv hfn hdt ht6 hNt0 hs1 hE hH
  go_upto_region 4 with fail
  simp only [hp'.out]
  rw [hw3'.out]
  clear hw3' hp'
  have hVc := hS3.out.v
  have p0 := hVc.cell 0
  have p1 := hVc.cell 1
  have p2 := hVc.cell 2
  have p3 := hVc.cell 3
  have p4 := hVc.cell 4
  simp at p0 p1 p2 p3 p4
  have hVi := hVc.inside
  clear hVc
  go_wp2_with fail
  refine hTi.mono ?_
  clear hTi p0 p1 p2 p3 p4 hVi
  rintro e w4 ⟨⟨u4, rfl, hu4, -⟩, hb4⟩
  obtain ⟨x4, N4, c4, rfl, -⟩ := hu4.opened
  have hS4 := Lib.hid (hS3.out.on hb4)
  have hL4 := Lib.hid (hL3.out.on hb4)
  clear hb4 hS3 hL3 hu4
  cases he0 : (E == 0)
  · have he1 : (E != 0) = true := by simpa using he0
    go_wp2
    go_ret
    exact ⟨rfl, hS4.out.b⟩
  have he1 : (E != 0) = false := by simpa using he0
  have hCk := Check_any v _ _ l t (by have := hl12'.out; omega) hnum'.out w4 hL4.out hS4.out.t
  have hVc := hS4.out.v
  have p0 := hVc.cell 0
  have p1 := hVc.cell 1
  have p2 := hVc.cell 2
  have p3 := hVc.cell 3
  have p4 := hVc.cell 4
  simp at p0 p1 p2 p3 p4
  have hVi := hVc.inside
  clear hVc
  go_wp2_with fail
  refine hCk.mono ?_
  clear hCk p0 p1 p2 p3 p4 hVi
  rintro e w5 ⟨⟨u5, rfl, hu5⟩, hb5⟩
  have hS5 := Lib.hid (hS4.out.on hb5)
  have hL5 := Lib.hid (hL4.out.on hb5)
  clear hb5 hS4 hL4
  rcases hu5 with ⟨hf, rfl⟩ | ⟨hf, qf, rfl, hqf⟩
  case inr =>
    clear hqf hf
    go_wp2
    go_ret
    exact ⟨rfl, hS5.out.b⟩
  have hK0 : Hid (SmK v l t 0 l 0) := Lib.hid ⟨hDr'.out, hnum'.out, by have := hl12'.out; omega, hf, by omega⟩
  clear hf
  have hpl := Lib.hid (row_plain hL5.out)
  have hsg : True := trivial
  go_upto_region 8 with fail
  go_upto_region 9 with (at_builtin; refine wpList_append_plain rfl _ _ 29 rfl w5.heap.size 66 i0 (.agg #[.int .i64 0, .int .i64 0]) 2 16 Tryd.underlying29 hi hz0 hz1 hz2 rfl (by decide) _ _ _ rfl (ownsEmpty2 rfl (Nat.le_refl _)) _ N ⟨_, _, rfl⟩ hpl.out (flatS l) rfl (by rw [flatS_length, hN.out]) (fun ad c e j u hj => by simp only [Value.slice.injEq] at e; obtain ⟨rfl, -, rfl⟩ := e; exact Row.flat (hL5.out.keep ((Below.refl _ _).alloc (Nat.le_refl _) _ : Below w5.heap.size w5 _) (Nat.le_refl _)) j u hj) flatS_one (by unfold maxLen; omega) (by omega) (by simp) ?_; intro v7 w7 hown7 hgrow7; rw [Nat.zero_add, List.nil_append] at hown7; obtain ⟨x7, c7, rfl, _, _⟩ := owns_slice hown7)
  have hL7 := Lib.hid (Row.of_owns (B := w7.heap.size) hown7 hN.out.symm (Nat.le_refl _))
  have hS7 := Lib.hid (hS5.out.on (((Below.refl w5.heap.size w5).alloc (Nat.le_refl _) (.cells #[] 66)).grown hgrow7 (by simp) (fun r e => by cases e; exact Nat.le_refl _)))
  have hHz : Hid (H = homeT v l t) := Lib.hid hH'.out.symm
  clear hown7 hgrow7 hS5 hL5 hpl he0 he1 hi hz0 hz1 hz2 hsg
  go_wp2
  go_loopw [11, 12, 13] (fun s u i wr => ∃ (k : Nat) (l' : List (Int × Int)) (sum : Int) (x : Option Addr) (c : Nat), i = .int .i64 k ∧ k ≤ 6 ∧ s = .int .i64 sum ∧ u = .slice x l'.length c ∧ Hid (SmK v l t k l' sum) ∧ Hid (Row wr.heap.size wr (.slice x l'.length c) l') ∧ Hid (SmAt w p (q + 1) v xs (.slice xt Nt ct) t wr))
    (fun _ _ i _ => 6 - (intOf i).toNat)
  case atStart => exact ⟨0, l, 0, x7, c7, rfl, by omega, rfl, by rw [hN.out], hK0, by rw [hN.out]; exact hL7, hS7⟩
  case round =>
    clear hL7 hS7 hK0
    obtain ⟨k, l', sum, x, c, rfl, hk, rfl, rfl, hK, hL, hS⟩ := hrel
    have hlen := hK.out.len
    have hsum := hK.out.sum
    have hb1 := homeT_bd v l t
    have hb2 := homeT_bd v l' t
    have hsb : -3000000 ≤ sum ∧ sum ≤ 3000000 := by omega
    obtain ⟨N', hN'⟩ : ∃ N', l'.length = N' := ⟨_, rfl⟩
    have hN'' := Lib.hid hN'
    rw [hN'] at hL
    simp only [hN']
    have hN12' : N' ≤ 12 := by omega
    clear hb1 hb2 hsum hlen hN'
    by_cases hgo : k < 6 ∧ 0 < N'
    · obtain ⟨hk6, hN0⟩ := hgo
      obtain ⟨y, hy⟩ : ∃ y, xs[k]? = some y := ⟨xs[k]'(by omega), List.getElem?_eq_getElem _⟩
      have hyb := hx y (List.mem_of_getElem? hy)
      have hOc := hS.out.o
      have o0 : wr.cell? ⟨q + 1, k, none⟩ = some (.int .u8 y) := by rw [hOc.cell k]; simp [hy]
      have hOi := hOc.inside
      obtain ⟨M, hM⟩ : ∃ M : Nat, y % (N' : Int) = M := ⟨(y % (N' : Int)).toNat, by have := Int.emod_nonneg y (show (N' : Int) ≠ 0 by omega); omega⟩
      have hMN : M < N' := by have := Int.emod_lt_of_pos y (show (0 : Int) < N' by omega); omega
      have htm : y.tmod (N' : Int) = M := by rw [Int.tmod_eq_emod_of_nonneg hyb.1, hM]
      have hyw : IntKind.i64.wrap y = y := IntWalk.i64_in _ (by omega)
      obtain ⟨⟨s1, s2⟩, hs⟩ : ∃ s, l'[M]? = some s := ⟨l'[M]'(by rw [hN''.out]; exact hMN), List.getElem?_eq_getElem _⟩
      have hmem := List.mem_of_getElem? hs
      obtain ⟨g, o, rfl, hg, e1, e2⟩ := Row.stop hL.out hs
      simp at e1 e2
      obtain ⟨hz, hln, hK'⟩ := hK.out.next hmem
      simp only at hz hln hK'
      have hnz : (N' : Int) ≠ 0 := by omega
      have hA := At_any _ l' s1 (by rw [hN''.out]; omega) wr hL.out
      have hix1 := ixF_bd (s := (s1, 1)) (l := l') (k := 0)
      obtain ⟨I, hI⟩ : ∃ I, ixV (s1, 0) l' = I := ⟨_, rfl⟩
      obtain ⟨J, hJ⟩ : ∃ J, ixV (s1, 1) l' = J := ⟨_, rfl⟩
      have hJb : -1 ≤ J ∧ J ≤ 12 := by
        have h9 : -1 ≤ ixV (s1, 1) l' ∧ ixV (s1, 1) l' ≤ (0 : Nat) + l'.length := hix1
        rw [hJ, hN''.out] at h9
        omega
      rw [hI, hJ] at hA hK' hz
      obtain ⟨R, hR⟩ : ∃ R, riseV v (woL s1 l') t s1 I (J - 1) = R := ⟨_, rfl⟩
      rw [hR] at hK'
      have hRb : -3000000 ≤ R ∧ R ≤ 3000000 := by
        rw [← hR, riseV_ok hz]
        have h8 := homeT_bd v (moreL (woL s1 l') s1 I (J - 1)) t
        have h9 := homeT_bd v (woL s1 l') t
        omega
      have hK'' := Lib.hid hK'
      have hz' := Lib.hid hz
      have hR' := Lib.hid hR
      have hln' := Lib.hid hln
      have hmem' := Lib.hid hmem
      have hkk : k + 1 ≤ 6 := hk6
      have hki : (k : Int) < 6 := by omega
      clear hs hix1 hK' hz hR hln hI hJ hmem hy hOc hM
      go_wp2_with fail
      refine hA.mono ?_
      clear hA o0 e1 e2 htm hyw
      rintro e w8 ⟨rfl, hb8⟩
      have hS8 := Lib.hid (hS.out.on hb8)
      have hL8 := Lib.hid (hL.out.on hb8)
      have hW := Without_any _ l' s1 (by rw [hN''.out]; omega) w8 hL8.out
      clear hb8 hS hL
      go_wp2_with fail
      refine hW.mono ?_
      clear hW
      rintro e w9 ⟨⟨u9, rfl, hu9⟩, hb9⟩
      have hS9 := Lib.hid (hS8.out.on hb9)
      obtain ⟨x9, N9, c9, rfl, hN9, -, hc91, hc92⟩ := hu9.opened
      have hu9' := Lib.hid hu9
      have hN9' : N9 + 2 = N' := by have h1 := hln'.out; rw [hN9.out, hN''.out] at h1; exact h1
      have hRi := Rise_any v _ _ (woL s1 l') t (by rw [hN9.out]; omega) hK''.out.nums s1 I (J - 1) w9 hS9.out.sg hu9'.out hS9.out.t
      rw [hR'.out, hz'.out] at hRi
      clear hb9 hS8 hL8 hu9
      have hVc := hS9.out.v
      have p0 := hVc.cell 0
      have p1 := hVc.cell 1
      have p2 := hVc.cell 2
      have p3 := hVc.cell 3
      have p4 := hVc.cell 4
      simp at p0 p1 p2 p3 p4
      have hVi := hVc.inside
      clear hVc
      go_wp2_with fail
      refine hRi.mono ?_
      clear hRi p0 p1 p2 p3 p4 hVi
      rintro e w10 ⟨rfl, hb10⟩
      have hS10 := Lib.hid (hS9.out.on hb10)
      have hL10 := Lib.hid (hu9'.out.on hb10)
      clear hb10 hS9 hu9'
      have hc9i : (N9 : Int) = (N' : Int) - 2 := by omega
      go_wp2
      go_roundw
      case rel => exact ⟨k + 1, woL s1 l', sum + R, x9, c9, by go_num, hkk, rfl, by rw [hN9.out], hK'', by rw [hN9.out]; exact hL10, hS10⟩
      case measure => simp [intOf]; omega
    · have hl0 : l'.length = 0 := by have := hK.out.len; rw [hN''.out] at this ⊢; omega
      have hnil : l' = [] := List.eq_nil_of_length_eq_zero hl0
      have hN0 : N' = 0 := by rw [← hN''.out]; exact hl0
      subst hnil
      subst hN0
      have hfs := ((fault_iff hK.out.dr).1 hK.out.fault).1
      have hsm : sum = H - v.st := by rw [hK.out.sum, home_none hfs, hHz.out]
      have hvs : 0 ≤ v.st ∧ v.st ≤ 1048576 := by
        have h9 := hK.out.dr.hv
        unfold Vh.chk at h9
        have := (Order.veh_iff ..).1 h9
        omega
      have hVc := hS.out.v
      have p0 := hVc.cell 0
      have p1 := hVc.cell 1
      have p2 := hVc.cell 2
      have p3 := hVc.cell 3
      have p4 := hVc.cell 4
      simp at p0 p1 p2 p3 p4
      have hVi := hVc.inside
      clear hVc
      have hB9 := Lib.hid hS.out.b
      clear hK hL hS hfs hgo hl0
      by_cases hk6 : k < 6
      · have hki : (k : Int) < 6 := by omega
        go_wp2
        go_ret
        exact ⟨rfl, hB9.out⟩
      · have hki : ¬ (k : Int) < 6 := by omega
        go_wp2
        go_ret
        exact ⟨rfl, hB9.out⟩

end Go.Proofs.YthjdacbgcpldjaaDoor.Ins

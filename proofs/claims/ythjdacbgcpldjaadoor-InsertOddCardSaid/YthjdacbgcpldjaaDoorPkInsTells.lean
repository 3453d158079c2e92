import Derived.Test.YthjdacbgcpldjaaDoorPkInsCase
import Derived.Test.YthjdacbgcpldjaaDoorPkInsBits

/-
  InsertTells returns true, whatever the draft, the numbers and memory are. Generated: InsTells.gen.py.
-/
namespace Go.Proofs.YthjdacbgcpldjaaDoor.Ins
open Go.RowKit Go.Sort Go.Shelf Go.Proofs.YthjdacbgcpldjaaDoor.Mem Go.Proofs.YthjdacbgcpldjaaDoor.Route Go.Proofs.YthjdacbgcpldjaaDoor.When Go.Proofs.YthjdacbgcpldjaaDoor.Load
set_option linter.unusedVariables false

theorem nums_small0 {l : List (Int × Int)} (h : Small l) : Nums l := Small.nums h
theorem small_wo {l : List (Int × Int)} (h : Small l) (r : Int) : Small (woL r l) := fun s hs => h s (List.mem_filter.1 hs).1

/-- What the laws over drafts hold: two vehicles, a route, the requests. -/
structure TwAt (w : World) (gv gu : Nat) (v u : Vh) (vl vt : Value) (l : List (Int × Int)) (t : List Rq) (W : World) : Prop where
  v : At W gv 28 #[.int .i64 v.hx, .int .i64 v.hy, .int .i64 v.cp, .int .i64 v.st, .int .i64 v.en]
  u : At W gu 28 #[.int .i64 u.hx, .int .i64 u.hy, .int .i64 u.cp, .int .i64 u.st, .int .i64 u.en]
  l : Row W.heap.size W vl l
  t : Rqs W.heap.size W vt t
  sg : Sg W
  b : Below w.heap.size w W
theorem TwAt.on {w W W' : World} {gv gu : Nat} {v u : Vh} {vl vt : Value} {l : List (Int × Int)} {t : List Rq} (h : TwAt w gv gu v u vl vt l t W) (hb : Below W.heap.size W W') : TwAt w gv gu v u vl vt l t W' :=
  ⟨h.v.keep hb h.v.inside, h.u.keep hb h.u.inside, h.l.on hb, h.t.on hb, h.sg.on hb, h.b.trans (hb.mono h.b.size)⟩

set_option maxRecDepth 100000 in
set_option maxHeartbeats 8000000 in
theorem insertTells_any (xb : Option Addr) (Nb cb : Nat) (bs : List Int) (a b c A B : Int) (hA : 0 ≤ A ∧ A < 256) (hBb : 0 ≤ B ∧ B < 256) (w : World) (hsg : Sg w) (hrow : RowB w.heap.size w (.slice xb Nb cb) 1 (bs.map byV)) (hby : ∀ x ∈ bs, 0 ≤ x ∧ x < 256) (ha : 0 ≤ a ∧ a < 256) (hb : 0 ≤ b ∧ b < 256) :
    Calls Tryd.prog 3 #[.agg #[.slice xb Nb cb, .int .u8 a, .int .u8 b, .int .i64 c], .int .u8 A, .int .u8 B] w fun e w' => e = .returned (.bool true) ∧ Below w.heap.size w w' := by
  obtain ⟨q, hq⟩ : ∃ q, w.heap.size = q := ⟨_, rfl⟩
  obtain ⟨w0, hw0⟩ : ∃ w0, w.alloc (.cells #[.slice xb Nb cb, .int .u8 a, .int .u8 b, .int .i64 c] 24) = w0 := ⟨_, rfl⟩
  have hB0 : Below w.heap.size w w0 := by rw [← hw0]; exact (Below.refl _ _).alloc (Nat.le_refl _) _
  have hD0 : At w0 q 24 #[.slice xb Nb cb, .int .u8 a, .int .u8 b, .int .i64 c] := by rw [← hw0]; exact At.new_ _ _ _ hq.symm
  have hc := case_any xb Nb cb bs a b c w0 (RowB.on hrow hB0) hby ha hb
  have hsg0 := hsg.on hB0
  have d0 := hD0.cell 0
  have d1 := hD0.cell 1
  have d2 := hD0.cell 2
  have d3 := hD0.cell 3
  simp at d0 d1 d2 d3
  have hs0 := hD0.inside
  have hw0' := Lib.hid hw0
  have hq' := Lib.hid hq
  clear hrow hD0 hw0 hq hsg hby ha hb
  go_enter Tryd.func3, Tryd.ntmps3
  go_upto_region 1 with fail
  simp only [hq'.out]
  rw [hw0'.out]
  go_wp2_with fail
  refine hc.mono ?_
  clear hc d0 d1 d2 d3 hw0'
  rintro e w1 ⟨⟨v, ul, ut, l0, t, rfl, hdv, hL1, hfn, hl12, hT1, ht6, hdt⟩, hb1⟩
  have hnum : Nums (woL ((t.length : Int) - 1) l0) := nums_small0 (small_wo hfn.1 _)
  have hlen : (woL ((t.length : Int) - 1) l0).length ≤ 12 := Nat.le_trans (wo_length _ _) hl12
  generalize woL ((t.length : Int) - 1) l0 = l at hL1 hnum hlen
  obtain ⟨r, hr⟩ : ∃ r : Int, (t.length : Int) - 1 = r := ⟨_, rfl⟩
  have hr6 : -1 ≤ r ∧ r ≤ 5 := by omega
  rw [hr]
  clear hfn hl12 ht6 hdt hr hdv l0
  obtain ⟨p, hp⟩ : ∃ p, w1.heap.size = p := ⟨_, rfl⟩
  obtain ⟨m, hm⟩ : ∃ m, A % 40 = m := ⟨_, rfl⟩
  have hm1 : 0 ≤ m := by omega
  have hm2 : m < 40 := by omega
  have hAr : A.tmod 40 = m := by rw [Int.tmod_eq_emod_of_nonneg hA.1, hm]
  obtain ⟨w3, hw3⟩ : ∃ w3, (w1.alloc (.cells #[.int .i64 v.hx, .int .i64 v.hy, .int .i64 v.cp, .int .i64 v.st, .int .i64 v.en] 28)).alloc (.cells #[.int .i64 v.hx, .int .i64 v.hy, .int .i64 (1 + m), .int .i64 v.st, .int .i64 v.en] 28) = w3 := ⟨_, rfl⟩
  have hV3 : At w3 p 28 #[.int .i64 v.hx, .int .i64 v.hy, .int .i64 v.cp, .int .i64 v.st, .int .i64 v.en] := by rw [← hw3]; exact (At.new_ _ _ _ hp.symm).alloc _
  have hU3 : At w3 (p + 1) 28 #[.int .i64 v.hx, .int .i64 v.hy, .int .i64 (1 + m), .int .i64 v.st, .int .i64 v.en] := by rw [← hw3]; exact At.new_ _ _ _ (by simp [hp])
  have hb3 : Below w1.heap.size w1 w3 := by rw [← hw3]; exact ((Below.refl _ _).alloc (Nat.le_refl _) _).alloc (by simp) _
  have hS3 : Hid (TwAt w p (p + 1) v ⟨v.hx, v.hy, 1 + m, v.st, v.en⟩ ul ut l t w3) := Lib.hid ⟨hV3, hU3, hL1.on hb3, hT1.on hb3, (hsg0.on hb1).on hb3, (hB0.trans (hb1.mono hB0.size)).trans (hb3.mono (Nat.le_trans hB0.size hb1.size))⟩
  have hnum' := Lib.hid hnum
  have hlen' := Lib.hid hlen
  have hl6 : Hid (l.length ≤ 1000000) := Lib.hid (by omega)
  obtain ⟨xl, N, cl, rfl, hN, -, -, hlc⟩ := hL1.opened
  rw [hN.out] at hlen
  have hp' := Lib.hid hp
  have hw3' := Lib.hid hw3
  obtain ⟨xt, Nt, ct, rfl, hNt0, htc1, htc2, -⟩ := hT1.opened
  clear hL1 hT1 hb1 hV3 hU3 hb3 hsg0 hB0 hs0 hp hw3 hnum hNt0 hm hA
  obtain ⟨n, hn⟩ : ∃ n, B % 9 = n := ⟨_, rfl⟩
  have hn1 : 0 ≤ n := by omega
  have hn2 : n < 9 := by omega
  have hBr : B.tmod 9 = n := by rw [Int.tmod_eq_emod_of_nonneg hBb.1, hn]
  clear hn hBb
  go_upto_region 4 with fail
  simp only [hp'.out]
  rw [hw3'.out]
  clear hAr hm1 hm2 hw3' hp'
  go_wp2
  go_loopw [12] (fun i wr => ∃ i' : Int, i = .int .i64 i' ∧ -1 ≤ i' ∧ i' ≤ N + 2 ∧ Hid (TwAt w p (p + 1) v ⟨v.hx, v.hy, 1 + m, v.st, v.en⟩ (.slice xl N cl) (.slice xt Nt ct) l t wr))
    (fun i _ => (N + 2 - intOf i).toNat)
  case atStart => exact ⟨-1, rfl, by omega, by omega, hS3⟩
  case round =>
    clear hS3
    obtain ⟨i, rfl, hi1, hi2, hS⟩ := hrel
    by_cases hlt : i ≤ N + 1
    · obtain ⟨wo, hwo⟩ : ∃ wo, wo = wr := ⟨_, rfl⟩
      subst hwo
      go_wp2
      go_loopw [13] (fun j wr => ∃ j' : Int, j = .int .i64 j' ∧ -1 ≤ j' ∧ j' ≤ N + 2 ∧ Hid (TwAt w p (p + 1) v ⟨v.hx, v.hy, 1 + m, v.st, v.en⟩ (.slice xl N cl) (.slice xt Nt ct) l t wr))
        (fun j _ => (N + 2 - intOf j).toNat)
      case atStart => exact ⟨-1, rfl, by omega, by omega, hS⟩
      case round =>
        clear hS
        obtain ⟨j, rfl, hj1, hj2, hS⟩ := hrel
        by_cases hlj : j ≤ N + 1
        · have hC := alike_any v _ _ l t hl6.out hnum'.out r i j wr hS.out.sg hS.out.l hS.out.t
          have hVc := hS.out.v
          have p0 := hVc.cell 0
          have p1 := hVc.cell 1
          have p2 := hVc.cell 2
          have p3 := hVc.cell 3
          have p4 := hVc.cell 4
          simp at p0 p1 p2 p3 p4
          have hVi := hVc.inside
          clear hVc
          go_wp2_with fail
          refine hC.mono ?_
          clear hC p0 p1 p2 p3 p4 hVi
          rintro e w5 ⟨rfl, hb5⟩
          have hS5 := Lib.hid (hS.out.on hb5)
          clear hb5 hS
          have hC := alike_any ⟨v.hx, v.hy, 1 + m, v.st, v.en⟩ _ _ l t hl6.out hnum'.out r i j w5 hS5.out.sg hS5.out.l hS5.out.t
          have hVc := hS5.out.u
          have p0 := hVc.cell 0
          have p1 := hVc.cell 1
          have p2 := hVc.cell 2
          have p3 := hVc.cell 3
          have p4 := hVc.cell 4
          simp at p0 p1 p2 p3 p4
          have hVi := hVc.inside
          clear hVc
          go_wp2_with fail
          refine hC.mono ?_
          clear hC p0 p1 p2 p3 p4 hVi
          rintro e w6 ⟨rfl, hb6⟩
          have hS6 := Lib.hid (hS5.out.on hb6)
          clear hb6 hS5
          go_wp2
          go_roundw
          case rel => exact ⟨j + 1, by go_num, by omega, by omega, hS6⟩
          case measure => simp [intOf]; omega
        · go_wp2
          go_roundw
          case rel => exact ⟨i + 1, by go_num, by omega, by omega, hS⟩
          case measure => simp [intOf]; omega
    · have hC := alike_any v _ _ l t hl6.out hnum'.out (n - 1) 0 0 wr hS.out.sg hS.out.l hS.out.t
      have hVc := hS.out.v
      have p0 := hVc.cell 0
      have p1 := hVc.cell 1
      have p2 := hVc.cell 2
      have p3 := hVc.cell 3
      have p4 := hVc.cell 4
      simp at p0 p1 p2 p3 p4
      have hVi := hVc.inside
      clear hVc
      go_wp2_with fail
      refine hC.mono ?_
      clear hC p0 p1 p2 p3 p4 hVi
      rintro e w5 ⟨rfl, hb5⟩
      have hS5 := Lib.hid (hS.out.on hb5)
      clear hb5 hS
      go_wp2_with fail
      refine (works_any w5 hS5.out.sg).mono ?_
      rintro e w6 ⟨rfl, hb6⟩
      have hS6 := Lib.hid (hS5.out.on hb6)
      clear hb6 hS5
      go_wp2
      go_ret
      exact ⟨rfl, hS6.out.b⟩

end Go.Proofs.YthjdacbgcpldjaaDoor.Ins

import Derived.Test.YteclpblfleakhaaDoorPkPlanPPrice
import Derived.Test.YteclpblfleakhaaDoorPkPriceCheapest

namespace Go.Proofs.YteclpblfleakhaaDoor.Price
open Go.RowKit Go.Sort Go.Proofs.YteclpblfleakhaaDoor.Mem Go.Proofs.YteclpblfleakhaaDoor.Order Go.Proofs.YteclpblfleakhaaDoor.Route Go.Proofs.YteclpblfleakhaaDoor.When Go.Proofs.YteclpblfleakhaaDoor.Load Go.Proofs.YteclpblfleakhaaDoor.Feas Go.Proofs.YteclpblfleakhaaDoor.Ins Go.Proofs.YteclpblfleakhaaDoor.Cheap Go.Proofs.YteclpblfleakhaaDoor.Plan
set_option linter.unusedVariables false
theorem best_pos {S : St} {r : Int} {y : Int × Wy} (h : leastQ (waysS S r) = some y) : 0 ≤ y.1 := by
 obtain ⟨i, _, _, e, _⟩ := waysS_mem (leastQ_mem h)
 rw [e]; omega
set_option maxRecDepth 100000 in
set_option maxHeartbeats 4000000 in
theorem Brute_any {vf vr vt : Value} (S : St) (r : Int) (w : World) (hsg : SgP' w) (hF : Vhs w.heap.size w vf S.vs) (hR : Rws w.heap.size w vr S.rows) (hT : Rqs w.heap.size w vt S.t) (hlen : ∀ l ∈ S.rows, l.length ≤ 100) (hnum : ∀ l ∈ S.rows, Nums l) (ht : S.t.length ≤ 1000) :
 Calls Tryd.prog 19 #[vf, vr, vt, .int .i64 r] w fun e w' => e = .returned (.int .u64 (bruteN S r)) ∧ Below w.heap.size w w' := by
 have hC := cheapest_any S r w hsg hF hR hT hlen hnum ht
 have hbd := brute_bd ht hnum r
 obtain ⟨xf, Nf, cf, rfl, -⟩ := Vhs.opened hF
 obtain ⟨xr, Nr, cr, rfl, -⟩ := Rws.opened hR
 obtain ⟨xt, Nt, ct, rfl, -⟩ := Rqs.opened hT
 obtain ⟨n, hn⟩ : ∃ n, bruteN S r = n := ⟨_, rfl⟩
 rw [hn] at hbd ⊢
 have hsg' := Lib.hid hsg
 have hn' := Lib.hid hn
 have hB := Lib.hid (fun y => best_pos (S := S) (r := r) (y := y))
 obtain ⟨L, hL⟩ : ∃ L, leastQ (waysS S r) = L := ⟨_, rfl⟩
 rw [hL] at hC hB
 have hL' := Lib.hid hL
 have hb1 := hbd.1
 have hb2 := hbd.2
 have hgi := hsg.pos
 have heq := eq_way4
 clear hF hR hT hlen hnum ht hsg hn hL hbd
 cases L with
 | none =>
  have hz : Hid (n = 4294967296) := Lib.hid (by rw [← hn'.out]; exact brute_no hL'.out)
  unfold bestB encQ at hC
  simp only at hC
  go_enter Tryd.func19, Tryd.ntmps19
  go_wp2_with fail
  refine hC.mono ?_
  clear hC
  rintro e w1 ⟨rfl, hb⟩
  obtain ⟨w2, hw2⟩ : ∃ w2, w1.alloc (.cells #[.int .i64 (-1), .int .i64 0, .int .i64 0, .int .i64 0] 107) = w2 := ⟨_, rfl⟩
  obtain ⟨q, hq⟩ : ∃ q, w1.heap.size = q := ⟨_, rfl⟩
  have hb2 : Below w1.heap.size w1 w2 := by rw [← hw2]; exact (Below.refl _ _).alloc (Nat.le_refl _) _
  have hBw := Lib.hid (hb.trans (hb2.mono hb.size))
  have hA : At w2 q 107 #[.int .i64 (-1), .int .i64 0, .int .i64 0, .int .i64 0] := by rw [← hw2]; exact At.new_ _ _ _ hq.symm
  obtain ⟨g0, g1, g2, g3⟩ := hsg'.out.on hBw.out
  have hgp := SgP'.pos ⟨g0, g1, g2, g3⟩
  have c0 := hA.cell 0
  have c1 := hA.cell 1
  have c2 := hA.cell 2
  have c3 := hA.cell 3
  simp at c0 c1 c2 c3
  have hqi := hA.inside
  have hw2' := Lib.hid hw2
  have hq' := Lib.hid hq
  clear hA hb hb2 hw2 hq
  go_upto_region 2 with fail
  try simp only [hq'.out]
  rw [hw2'.out]
  go_wp2
  go_ret
  exact ⟨ret_u64 hz.out.symm, hBw.out⟩
 | some y =>
  have hz : Hid (n = y.2.n) := Lib.hid (by rw [← hn'.out]; exact brute_yes hL'.out)
  have hp := hB.out _ rfl
  obtain ⟨y1, y2, y3, y4⟩ := y
  unfold bestB encQ at hC
  simp only at hC hz hp
  obtain rfl := hz.out
  go_enter Tryd.func19, Tryd.ntmps19
  go_wp2_with fail
  refine hC.mono ?_
  clear hC
  rintro e w1 ⟨rfl, hb⟩
  obtain ⟨w2, hw2⟩ : ∃ w2, w1.alloc (.cells #[.int .i64 y1, .int .i64 y2, .int .i64 y3, .int .i64 n] 107) = w2 := ⟨_, rfl⟩
  obtain ⟨q, hq⟩ : ∃ q, w1.heap.size = q := ⟨_, rfl⟩
  have hb2 : Below w1.heap.size w1 w2 := by rw [← hw2]; exact (Below.refl _ _).alloc (Nat.le_refl _) _
  have hBw := Lib.hid (hb.trans (hb2.mono hb.size))
  have hA : At w2 q 107 #[.int .i64 y1, .int .i64 y2, .int .i64 y3, .int .i64 n] := by rw [← hw2]; exact At.new_ _ _ _ hq.symm
  obtain ⟨g0, g1, g2, g3⟩ := hsg'.out.on hBw.out
  have hgp := SgP'.pos ⟨g0, g1, g2, g3⟩
  have c0 := hA.cell 0
  have c1 := hA.cell 1
  have c2 := hA.cell 2
  have c3 := hA.cell 3
  simp at c0 c1 c2 c3
  have hqi := hA.inside
  have hw2' := Lib.hid hw2
  have hq' := Lib.hid hq
  have hne : (decide (y1 = -1) && (decide (y2 = 0) && (decide (y3 = 0) && decide (n = 0)))) = false := by rw [show decide (y1 = -1) = false by simp; omega]; rfl
  clear hA hb hb2 hw2 hq
  go_upto_region 2 with fail
  try simp only [hq'.out]
  rw [hw2'.out]
  go_wp2
  go_ret
  exact ⟨rfl, hBw.out⟩
theorem ret_least4 {a b c a' b' c' : Int} {d d' : Bool} (h1 : a = a') (h2 : b = b') (h3 : c = c') (h4 : d = d') : Ending.returned (.tuple #[.int .i64 a, .int .i64 b, .int .i64 c, .bool d]) = .returned (.tuple #[.int .i64 a', .int .i64 b', .int .i64 c', .bool d']) := by rw [h1, h2, h3, h4]
theorem leastV_none {S : St} {r : Int} (h : leastQ (waysS S r) = none) : leastV S r = (0, ⟨0, 0, 0⟩) := by unfold leastV; rw [h]; rfl
theorem leastV_some {S : St} {r : Int} {y : Int × Wy} (h : leastQ (waysS S r) = some y) : leastV S r = y := by unfold leastV; rw [h]; rfl
set_option maxRecDepth 100000 in
set_option maxHeartbeats 4000000 in
theorem Least_any {vf vr vt : Value} (S : St) (r : Int) (w : World) (hsg : SgP' w) (hF : Vhs w.heap.size w vf S.vs) (hR : Rws w.heap.size w vr S.rows) (hT : Rqs w.heap.size w vt S.t) (hlen : ∀ l ∈ S.rows, l.length ≤ 100) (hnum : ∀ l ∈ S.rows, Nums l) (ht : S.t.length ≤ 1000) :
 Calls Tryd.prog 18 #[vf, vr, vt, .int .i64 r] w fun e w' => e = .returned (.tuple #[.int .i64 (leastV S r).1, .int .i64 (leastV S r).2.i, .int .i64 (leastV S r).2.j, .bool (leastQ (waysS S r)).isSome]) ∧ Below w.heap.size w w' := by
 have hC := cheapest_any S r w hsg hF hR hT hlen hnum ht
 obtain ⟨xf, Nf, cf, rfl, -⟩ := Vhs.opened hF
 obtain ⟨xr, Nr, cr, rfl, -⟩ := Rws.opened hR
 obtain ⟨xt, Nt, ct, rfl, -⟩ := Rqs.opened hT
 have hsg' := Lib.hid hsg
 have hB := Lib.hid (fun y => best_pos (S := S) (r := r) (y := y))
 have h0 := Lib.hid (leastV_none (S := S) (r := r))
 have h1 := Lib.hid (fun y => leastV_some (S := S) (r := r) (y := y))
 obtain ⟨L, hL⟩ : ∃ L, leastQ (waysS S r) = L := ⟨_, rfl⟩
 rw [hL] at hC hB h0 h1 ⊢
 have hgi := hsg.pos
 have heq := eq_way4
 clear hF hR hT hlen hnum ht hsg hL
 cases L with
 | none =>
  have hz := Lib.hid (h0.out rfl)
  unfold bestB encQ at hC
  simp only at hC
  go_enter Tryd.func18, Tryd.ntmps18
  go_wp2_with fail
  refine hC.mono ?_
  clear hC
  rintro e w1 ⟨rfl, hb⟩
  obtain ⟨w2, hw2⟩ : ∃ w2, w1.alloc (.cells #[.int .i64 (-1), .int .i64 0, .int .i64 0, .int .i64 0] 107) = w2 := ⟨_, rfl⟩
  obtain ⟨q, hq⟩ : ∃ q, w1.heap.size = q := ⟨_, rfl⟩
  have hb2 : Below w1.heap.size w1 w2 := by rw [← hw2]; exact (Below.refl _ _).alloc (Nat.le_refl _) _
  have hBw := Lib.hid (hb.trans (hb2.mono hb.size))
  have hA : At w2 q 107 #[.int .i64 (-1), .int .i64 0, .int .i64 0, .int .i64 0] := by rw [← hw2]; exact At.new_ _ _ _ hq.symm
  obtain ⟨g0, g1, g2, g3⟩ := hsg'.out.on hBw.out
  have hgp := SgP'.pos ⟨g0, g1, g2, g3⟩
  have c0 := hA.cell 0
  have c1 := hA.cell 1
  have c2 := hA.cell 2
  have c3 := hA.cell 3
  simp at c0 c1 c2 c3
  have hqi := hA.inside
  have hw2' := Lib.hid hw2
  have hq' := Lib.hid hq
  clear hA hb hb2 hw2 hq
  go_upto_region 2 with fail
  try simp only [hq'.out]
  rw [hw2'.out]
  go_wp2
  refine bodyPost_ret (v := .tuple #[.int .i64 0, .int .i64 0, .int .i64 0, .bool false]) (by simp [results, Tryd.results18, go_sem]) rfl ?_
  exact ⟨ret_least4 (by rw [hz.out]) (by rw [hz.out]) (by rw [hz.out]) rfl, hBw.out⟩
 | some y =>
  have hz := Lib.hid (h1.out y rfl)
  have hp := hB.out _ rfl
  obtain ⟨y1, y2, y3, y4⟩ := y
  unfold bestB encQ at hC
  simp only at hC hp
  go_enter Tryd.func18, Tryd.ntmps18
  go_wp2_with fail
  refine hC.mono ?_
  clear hC
  rintro e w1 ⟨rfl, hb⟩
  obtain ⟨w2, hw2⟩ : ∃ w2, w1.alloc (.cells #[.int .i64 y1, .int .i64 y2, .int .i64 y3, .int .i64 y4] 107) = w2 := ⟨_, rfl⟩
  obtain ⟨q, hq⟩ : ∃ q, w1.heap.size = q := ⟨_, rfl⟩
  have hb2 : Below w1.heap.size w1 w2 := by rw [← hw2]; exact (Below.refl _ _).alloc (Nat.le_refl _) _
  have hBw := Lib.hid (hb.trans (hb2.mono hb.size))
  have hA : At w2 q 107 #[.int .i64 y1, .int .i64 y2, .int .i64 y3, .int .i64 y4] := by rw [← hw2]; exact At.new_ _ _ _ hq.symm
  obtain ⟨g0, g1, g2, g3⟩ := hsg'.out.on hBw.out
  have hgp := SgP'.pos ⟨g0, g1, g2, g3⟩
  have c0 := hA.cell 0
  have c1 := hA.cell 1
  have c2 := hA.cell 2
  have c3 := hA.cell 3
  simp at c0 c1 c2 c3
  have hqi := hA.inside
  have hw2' := Lib.hid hw2
  have hq' := Lib.hid hq
  have hne : (decide (y1 = -1) && (decide (y2 = 0) && (decide (y3 = 0) && decide (y4 = 0)))) = false := by rw [show decide (y1 = -1) = false by simp; omega]; rfl
  clear hA hb hb2 hw2 hq
  go_upto_region 2 with fail
  try simp only [hq'.out]
  rw [hw2'.out]
  go_upto_region 4 with fail
  have k0 := cell_regrown c0
  have k1 := cell_regrown c1
  have k2 := cell_regrown c2
  refine wp_region_quiet_below (by kernel_rfl) (by kernel_rfl) ?_
  repeat (go_big_quiet_step (fail))
  refine wpQuiet_nil ?_
  intro _ hw'
  obtain ⟨⟨dq, osq⟩, hw''⟩ := hw'
  subst hw''
  have hB9 := Lib.hid (hBw.out.trans ((below_regrown w2 dq osq).mono hBw.out.size))
  clear k0 k1 k2 c0 c1 c2 c3
  go_wp2
  refine bodyPost_ret (v := .tuple #[.int .i64 y1, .int .i64 y2, .int .i64 y3, .bool true]) (by simp [results, Tryd.results18, go_sem]) rfl ?_
  exact ⟨ret_least4 (by rw [hz.out]) (by rw [hz.out]) (by rw [hz.out]) rfl, hB9.out⟩
set_option maxRecDepth 100000 in
set_option maxHeartbeats 2000000 in
theorem Bid_any {D G : Nat → Prop} {p : Nat} {S : St} (r : Int) (w : World) (h : PlanAt D G w p S) (ho : Ok S) (hsg : Sg w) :
 Calls Tryd.prog 10 #[.pointer (some ⟨p, 0, none⟩), .int .i64 r] w fun e w' => e = .returned (.int .u64 (bruteN S r)) ∧ Below w.heap.size w w' := by
 have hP := Price_any r w h ho hsg
 have hbd := brute_bd ho.tl (fun l hl => by
  obtain ⟨i, hi, rfl⟩ := List.getElem_of_mem hl
  exact (ho.dr i _ _ (List.getElem?_eq_getElem (by rw [← ho.len]; exact hi)) (List.getElem?_eq_getElem hi)).2.2.2) r
 rw [brute_price ho] at hbd ⊢
 obtain ⟨I, hI⟩ : ∃ I, priceI S r = I := ⟨_, rfl⟩
 obtain ⟨N, hN⟩ : ∃ N, priceN S r = N := ⟨_, rfl⟩
 obtain ⟨E, hE⟩ : ∃ E, priceE S r = E := ⟨_, rfl⟩
 rw [hI, hN, hE] at hP
 rw [hN, hE] at hbd ⊢
 obtain ⟨R, hR⟩ : ∃ R, (if E = 0 then N else 4294967296) = R := ⟨_, rfl⟩
 rw [hR] at hbd ⊢
 have hR' := Lib.hid hR
 clear hI hN hE ho hsg h hR
 by_cases h0 : E = 0
 · subst h0
   obtain rfl : N = R := by have := hR'.out; rwa [if_pos rfl] at this
   obtain ⟨hb1, hb2⟩ := hbd
   go_enter Tryd.func10, Tryd.ntmps10
   go_wp2_with fail
   refine hP.mono ?_
   clear hP
   rintro e w1 ⟨rfl, hb⟩
   have hb' := Lib.hid hb
   clear hb
   go_wp2
   go_ret
   exact ⟨rfl, hb'.out⟩
 · have hr : Hid (4294967296 = R) := Lib.hid (by have := hR'.out; rwa [if_neg h0] at this)
   have h1 : (E != 0) = true := by simpa using h0
   have h2 : (E == 0) = false := by simpa using h0
   clear h0 hbd
   go_enter Tryd.func10, Tryd.ntmps10
   go_wp2_with fail
   refine hP.mono ?_
   clear hP
   rintro e w1 ⟨rfl, hb⟩
   have hb' := Lib.hid hb
   clear hb
   go_wp2
   go_ret
   exact ⟨ret_u64 hr.out, hb'.out⟩
end Go.Proofs.YteclpblfleakhaaDoor.Price

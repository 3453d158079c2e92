import Derived.Test.YtfoflfeaegfnnaaPkSlackParts
import Derived.Test.YtfoflfeaegfnnaaPkSlackWorks
import Derived.Test.YtfoflfeaegfnnaaPkSlackTold

/-
  SlackTells returns true, whatever the draft, the stops, the vehicle, the numbers and memory are.
-/
namespace Go.Proofs.Ytfoflfeaegfnnaa.Slack
open Go.RowKit Go.Sort Go.Proofs.Ytfoflfeaegfnnaa.Mem Go.Proofs.Ytfoflfeaegfnnaa.Route Go.Proofs.Ytfoflfeaegfnnaa.When Go.Proofs.Ytfoflfeaegfnnaa.Tail
set_option linter.unusedVariables false

theorem ownsEmpty10 {W : World} {base n : Nat} {e : TypeId} (hn : n = W.heap.size) (hb : base ≤ n) : (W.alloc (.cells #[] e)).ownsRow base e 10 (.slice (some ⟨n, 0, none⟩) 0 0) 0 [] := by
  subst hn
  exact ⟨rfl, .inr ⟨W.heap.size, 0, #[], rfl, hb, heap_alloc_new W _, Nat.le_refl _, Nat.zero_le _, rfl, rfl⟩⟩
theorem rqs_plain {B : Nat} {W : World} {v : Value} {l : List Rq} (h : Rqs B W v l) : Plain v := by
  obtain ⟨x, cap, rfl, h1, h2, h0, _⟩ := h
  cases x with
  | none =>
    have := h0 rfl
    simp at this
    exact .inl (by simp [this])
  | some b => exact .inr ⟨b, _, _, rfl⟩
theorem rqV_len {t : List Rq} : ∀ r ∈ t.map rqV, r.length = 10 := fun r hr => by obtain ⟨s, _, rfl⟩ := List.mem_map.1 hr; rfl
theorem flatQ_length (t : List Rq) : (flatQ t).length = t.length * 10 := by
  induction t with
  | nil => rfl
  | cons q t ih =>
    have : flatQ (q :: t) = rqV q ++ flatQ t := by simp [flatQ]
    rw [this, List.length_append, ih]
    simp [rqV]
    omega
theorem rqs_flat {B : Nat} {W : World} {b : Addr} {N cap : Nat} {l : List Rq} (h : Rqs B W (.slice (some b) N cap) l) : ∀ j u, (flatQ l)[j]? = some u → W.cell? (b.add j) = some u := by
  intro j u hj
  obtain ⟨i, k, r, e, hr, hu⟩ := flat_of (m := 10) (by decide) rqV_len j u hj
  obtain ⟨g, o, hx, hg, hc⟩ := RowB.row h hr
  cases hx
  have := hc k u hu
  rw [add_at, e, show o + (i * 10 + k) = o + i * 10 + k by omega]
  exact this
theorem flatQ_one {t : List Rq} : ∀ u ∈ flatQ t, u.oneCell' = true := by
  intro u hu
  simp only [flatQ, List.mem_flatten, List.mem_map] at hu
  obtain ⟨r, ⟨s, _, rfl⟩, hu⟩ := hu
  simp only [rqV, List.mem_cons, List.not_mem_nil, or_false] at hu
  rcases hu with rfl | rfl | rfl | rfl | rfl | rfl | rfl | rfl | rfl | rfl <;> rfl
theorem flatQ_get {L : List Rq} {k : Nat} {q : Rq} (h : L[k]? = some q) (j : Nat) (hj : j < 10) : (flatQ L)[k * 10 + j]? = (rqV q)[j]? := by
  have hl : (rqV q)[j]? = some ((rqV q)[j]'(by simp [rqV]; omega)) := List.getElem?_eq_getElem _
  rw [hl]
  exact flat_get (m := 10) rqV_len k (rqV q) (by rw [List.getElem?_map, h]; rfl) j _ hl
theorem flatQ_set {L : List Rq} {k : Nat} {q : Rq} (h : L[k]? = some q) (x : Int) : (flatQ L).set (k * 10 + 9) (.int .i64 x) = flatQ (L.set k { q with sv := x }) := by
  have hk := (List.getElem?_eq_some_iff.1 h).1
  apply List.ext_getElem?
  intro i
  rw [List.getElem?_set, flatQ_length]
  have hset : (L.set k { q with sv := x })[i / 10]? = if i / 10 = k then some { q with sv := x } else L[i / 10]? := by
    rw [List.getElem?_set]
    by_cases e : k = i / 10
    · subst e; simp [hk]
    · rw [if_neg e, if_neg (fun e' => e e'.symm)]
  by_cases hi : i < L.length * 10
  · obtain ⟨q0, hq0⟩ : ∃ q0, L[i / 10]? = some q0 := ⟨L[i / 10]'(by omega), List.getElem?_eq_getElem _⟩
    have e10 : i = i / 10 * 10 + i % 10 := by omega
    have hm : i % 10 < 10 := Nat.mod_lt _ (by decide)
    by_cases e : i / 10 = k
    · rw [if_pos e] at hset
      have r1 := flatQ_get hset (i % 10) hm
      rw [← e10] at r1
      rw [r1]
      rw [e] at hq0
      rw [h] at hq0
      cases hq0
      have r2 := flatQ_get (show L[i / 10]? = some q by rw [e]; exact h) (i % 10) hm
      rw [← e10] at r2
      by_cases h9 : k * 10 + 9 = i
      · rw [if_pos h9, if_pos (by omega)]
        have : i % 10 = 9 := by omega
        rw [this]
        rfl
      · rw [if_neg h9, r2]
        have : i % 10 ≠ 9 := by omega
        generalize i % 10 = m at *
        match m, hm, this with
        | 0, _, _ | 1, _, _ | 2, _, _ | 3, _, _ | 4, _, _ | 5, _, _ | 6, _, _ | 7, _, _ | 8, _, _ => rfl
        | m + 10, hm, _ => omega
    · rw [if_neg e, hq0] at hset
      have r1 := flatQ_get hset (i % 10) hm
      have r2 := flatQ_get hq0 (i % 10) hm
      rw [← e10] at r1 r2
      rw [if_neg (by omega), r1, r2]
  · rw [if_neg (by omega), List.getElem?_eq_none (by rw [flatQ_length]; omega), List.getElem?_eq_none (by rw [flatQ_length, List.length_set]; omega)]

theorem own_lt10 {W : World} {base size k : Nat} {e : TypeId} {v : Value} {xs : List Value} (h : W.ownsRow base e size v k xs) : ∀ r, v.ownBlock = some r → r < W.heap.size := fun r e => (World.ownsRow.lt h r e).2
theorem own_at10 {W : World} {base size n cap : Nat} {e : TypeId} {x : Option Addr} {xs : List Value} (h : W.ownsRow base e size (.slice x n cap) n xs) (hn : 0 < n) : ∃ q : Nat, x = some ⟨q, 0, none⟩ := by
  rcases h.2 with ⟨_, h0⟩ | ⟨k, cap, cur, h1, _⟩
  · omega
  · cases h1; exact ⟨_, rfl⟩
theorem u64_nat {n : Nat} (h : n ≤ 1000000) : IntKind.u64.wrap (n : Int) = n := by
  simp only [IntKind.wrap, IntKind.signed, IntKind.bits, Bool.false_and]
  simp
  omega
theorem odd_at (n0 : Int) {N : Nat} (h0 : 0 < N) (h : N ≤ 1000000) : ∃ k : Nat, wrap64 ((IntKind.u64.wrap n0).tmod (N : Int)) = (k : Int) ∧ k < N := by
  have hu : 0 ≤ IntKind.u64.wrap n0 := by
    simp only [IntKind.wrap, IntKind.signed, IntKind.bits, Bool.false_and]
    simp
    omega
  generalize IntKind.u64.wrap n0 = u at *
  have h1 := Int.tmod_nonneg (N : Int) hu
  have h2 := Int.tmod_lt_of_pos u (show (0 : Int) < N by omega)
  refine ⟨(u.tmod N).toNat, ?_, by omega⟩
  unfold wrap64
  omega

set_option maxRecDepth 100000 in
set_option maxHeartbeats 8000000 in
theorem tells_any (a wd s0 e0 : Int) (xr xb : Option Addr) (Nr cr Nb cb : Nat) (rs : List S6) (bs : List Int) (ha : U8 a) (hwd : U8 wd) (hs0 : U8 s0) (he0 : 0 ≤ e0 ∧ e0 < 65536) (hrs : ∀ x ∈ rs, x.ok) (hbs : ∀ x ∈ bs, 0 ≤ x ∧ x < 256)
    (xa : Option Addr) (Na ca : Nat) (l2 : List (Int × Int)) (x2 : Vh) (hn2 : Nums l2) (n0 n1 : Int) (hn0 : I64 n0) (hn1 : I64 n1) (w : World) (hR : RowB w.heap.size w (.slice xr Nr cr) 6 (rs.map s6V)) (hB : RowB w.heap.size w (.slice xb Nb cb) 1 (bs.map Route.byV)) (hL2 : Row w.heap.size w (.slice xa Na ca) l2) :
    Calls Try.prog 3 #[.agg #[.int .u8 a, .int .u8 wd, .slice xr Nr cr, .slice xb Nb cb, .int .u8 s0, .int .u16 e0], .agg #[.slice xa Na ca, .int .i64 x2.hx, .int .i64 x2.hy, .int .i64 x2.cp, .int .i64 x2.st, .int .i64 x2.en], .agg #[.int .i64 n0, .int .i64 n1]] w fun e w' => e = .returned (.bool true) ∧ Below w.heap.size w w' := by
  obtain ⟨iq, hiq, hq0, hq1, hq2⟩ := info_parts info_request
  obtain ⟨q, hq⟩ : ∃ q, w.heap.size = q := ⟨_, rfl⟩
  obtain ⟨w1, hw1⟩ : ∃ w1, ((w.alloc (.cells #[.int .u8 a, .int .u8 wd, .slice xr Nr cr, .slice xb Nb cb, .int .u8 s0, .int .u16 e0] 26)).alloc (.cells #[.slice xa Na ca, .int .i64 x2.hx, .int .i64 x2.hy, .int .i64 x2.cp, .int .i64 x2.st, .int .i64 x2.en] 33)).alloc (.cells #[.int .i64 n0, .int .i64 n1] 34) = w1 := ⟨_, rfl⟩
  have hX1 : At w1 q 26 #[.int .u8 a, .int .u8 wd, .slice xr Nr cr, .slice xb Nb cb, .int .u8 s0, .int .u16 e0] := by rw [← hw1]; exact ((At.new_ _ _ _ hq.symm).alloc _).alloc _
  have hY1 : At w1 (q + 1) 33 #[.slice xa Na ca, .int .i64 x2.hx, .int .i64 x2.hy, .int .i64 x2.cp, .int .i64 x2.st, .int .i64 x2.en] := by rw [← hw1]; exact (At.new_ _ _ _ (by simp [hq])).alloc _
  have hZ1 : At w1 (q + 2) 34 #[.int .i64 n0, .int .i64 n1] := by rw [← hw1]; exact At.new_ _ _ _ (by simp [hq])
  have hb1 : Below w.heap.size w w1 := by rw [← hw1]; exact (((Below.refl _ _).alloc (Nat.le_refl _) _).alloc (by simp) _).alloc (by simp; omega) _
  obtain ⟨_, _, _, exa, hNa, _, hca1, hca2⟩ := hL2.opened
  simp only [Value.slice.injEq] at exa
  obtain ⟨rfl, rfl, rfl⟩ := exa
  obtain ⟨K, hK1, hK2, hK3⟩ : ∃ K : Nat, min (Na : Int) 20 = (K : Int) ∧ K ≤ Na ∧ K ≤ 20 := ⟨min Na 20, by omega, by omega, by omega⟩
  have hcut := Lib.hid ((hL2.cutTo hNa.out hK2).on hb1)
  have hcutN : Hid (Nums (l2.take K)) := Lib.hid (fun s hs => hn2 s (List.mem_of_mem_take hs))
  have hcutL : Hid ((l2.take K).length ≤ 1000000) := Lib.hid (by rw [List.length_take]; omega)
  have hR1 := Lib.hid (RowB.on hR hb1)
  have hB1 := Lib.hid (RowB.on hB hb1)
  have hrs' := Lib.hid hrs
  have hbs' := Lib.hid hbs
  have hw1' := Lib.hid hw1
  have hq' := Lib.hid hq
  have hn0' := Lib.hid hn0
  have hn1' := Lib.hid hn1
  have hKc : K ≤ ca := by omega
  unfold maxLen at hca2
  have hY1' := Lib.hid hY1
  have hZ1' := Lib.hid hZ1
  have hp := parts_any a wd s0 e0 xr xb Nr cr Nb cb rs bs ha hwd hs0 he0 hrs'.out hbs'.out _ hR1.out hB1.out
  have x0 := hX1.cell 0
  have x1 := hX1.cell 1
  have x2c := hX1.cell 2
  have x3 := hX1.cell 3
  have x4 := hX1.cell 4
  have x5 := hX1.cell 5
  simp at x0 x1 x2c x3 x4 x5
  have hs1 : q < w1.heap.size := hX1.inside
  have hb1' := Lib.hid hb1
  clear hR hB hrs hbs hw1 hq hL2 hn2 hNa hn0 hn1 hR1 hB1 hrs' hbs' ha hwd hs0 he0 hX1 hY1 hZ1 hb1
  generalize l2.take K = lc at *
  go_enter Try.func3, Try.ntmps3
  go_upto_region 1 with fail
  first | rw [hw1'.out] | (simp only [hq'.out]; rw [hw1'.out])
  try simp only [hq'.out]
  go_wp2_with fail
  refine hp.mono ?_
  clear hp x0 x1 x2c x3 x4 x5 hs1 hw1' hq'
  rintro e w3 ⟨⟨v, ut, ul, l, t, rfl, hen, hro, hnm, hlo, hqr, ht6, ht12⟩, hb3⟩
  have hnum := Lib.hid hnm
  have hl6 : Hid (l.length ≤ 1000000) := Lib.hid (by omega)
  obtain ⟨n, hn⟩ : ∃ n, w3.heap.size = n := ⟨_, rfl⟩
  obtain ⟨w4, hw4⟩ : ∃ w4, w3.alloc (.cells #[.int .i64 v.hx, .int .i64 v.hy, .int .i64 v.cp, .int .i64 v.st, .int .i64 v.en] 31) = w4 := ⟨_, rfl⟩
  have hb34 : Below w3.heap.size w3 w4 := by rw [← hw4]; exact (Below.refl _ _).alloc (Nat.le_refl _) _
  have hV4 : At w4 n 31 #[.int .i64 v.hx, .int .i64 v.hy, .int .i64 v.cp, .int .i64 v.st, .int .i64 v.en] := by rw [← hw4]; exact At.new_ _ _ _ hn.symm
  have hb14 : Below w1.heap.size w1 w4 := hb3.trans (hb34.mono hb3.size)
  have hbB := Lib.hid (hb1'.out.trans (hb14.mono hb1'.out.size))
  have hro4 := Lib.hid (hro.on hb34)
  have hqr4 := Lib.hid (hqr.on hb34)
  have hY4 := Lib.hid (hY1'.out.keep hb14 hY1'.out.inside)
  have hZ4 := Lib.hid (hZ1'.out.keep hb14 hZ1'.out.inside)
  have hcut4 := Lib.hid (hcut.out.on hb14)
  obtain ⟨xl, Nl, cl, rfl, hNl, hNl0, hlc1, hlc2⟩ := hro.opened
  obtain ⟨xt, Nt, ct, rfl, hNt, htc1, htc2, _⟩ := hqr.opened
  unfold maxLen at hlc2 htc2
  have hNt' := Lib.hid hNt
  have hNt12 : Nt ≤ 12 := by rw [← hNt]; exact ht12
  have hNt6 : 0 < Nt := by omega
  have hw4' := Lib.hid hw4
  have hn' := Lib.hid hn
  have hV4' := Lib.hid hV4
  have hnw : n < w4.heap.size := hV4.inside
  clear hb3 hb34 hb14 hro hqr hnm hlo hw4 hn hen ht6 ht12 hNl hNt hNl0 hV4 hY1' hZ1' hcut hb1'
  go_upto_region 2 with fail
  simp only [hn'.out]
  rw [hw4'.out]
  have hRq : Hid (Rqs (w4.alloc (.cells #[] 41)).heap.size (w4.alloc (.cells #[] 41)) (.slice xt Nt ct) t) := Lib.hid (hqr4.out.on ((Below.refl _ _).alloc (Nat.le_refl _) _))
  have hpl := rqs_plain hRq.out
  go_upto_region 3 with (at_builtin; go_loud (refine wpList_append_plain rfl _ _ 35 rfl w4.heap.size 41 iq (.agg #[.int .i64 0, .int .i64 0, .int .i64 0, .int .i64 0, .int .i64 0, .int .i64 0, .int .i64 0, .int .i64 0, .int .i64 0, .int .i64 0]) 10 80 Try.underlying35 hiq hq0 hq1 hq2 rfl (by decide) _ _ _ rfl (ownsEmpty10 rfl (Nat.le_refl _)) (.slice xt Nt ct) Nt ⟨_, _, rfl⟩ hpl (flatQ t) rfl (by rw [flatQ_length, hNt'.out]) (fun ad c e => by cases e; exact rqs_flat hRq.out) flatQ_one (by unfold maxLen; omega) (by omega) (by simp) ?_; intro v11 w11 hown11 hgrow11; rw [Nat.zero_add, List.nil_append] at hown11; obtain ⟨x11, k11, rfl, hk11a, hk11b⟩ := owns_slice hown11))
  have hB11 : Below w4.heap.size w4 w11 := ((Below.refl _ _).alloc (Nat.le_refl _) _).grown hgrow11 (by simp) (fun r e => by cases e; exact Nat.le_refl _)
  unfold maxLen at hk11a
  have hown11' := Lib.hid hown11
  have hB11' := Lib.hid hB11
  clear hown11 hgrow11 hB11 hpl hRq
  have hZ11 := hZ4.out.keep hB11'.out hZ4.out.inside
  have z0 := hZ11.cell 0
  have z1 := hZ11.cell 1
  simp at z0 z1
  have kz0 := cell_regrown z0
  have kz1 := cell_regrown z1
  have hZs := hZ11.inside
  have hu64 : IntKind.u64.wrap (Nt : Int) = Nt := u64_nat (by omega)
  have hNz : ((Nt : Int) == 0) = false := by rw [beq_eq_false_iff_ne]; omega
  have hNz2 : (Nt : Int) ≠ 0 := by omega
  obtain ⟨k, hk, hkN⟩ := odd_at n0 hNt6 (by omega)
  have hkI : ((k : Int) < (Nt : Int)) := by omega
  obtain ⟨g, hg⟩ := own_at10 hown11'.out hNt6
  subst hg
  clear z0 z1 hZ11
  refine wp_region_below_tail 11 (by kernel_rfl) (by kernel_rfl) (by kernel_rfl) ?_
  simp only [List.take_succ_cons, List.take_zero, List.drop_succ_cons, List.drop_zero]
  repeat (go_big_quiet_step (fail))
  refine wpQuiet_nil ?_
  intro _ hw'
  obtain ⟨⟨dq, osq⟩, hw''⟩ := hw'
  subst hw''
  have hb12 := below_regrown w11 dq osq
  have hown12 := owns_below hown11'.out hb12
  have hB12 := Lib.hid (hB11'.out.trans (hb12.mono hB11'.out.size))
  clear hb12 hown11' hB11' kz0 kz1
  generalize grow (redrawn w11 dq) osq = w12 at *
  rw [hk]
  obtain ⟨qk, hqk⟩ : ∃ x, t[k]? = some x := ⟨t[k]'(by rw [hNt'.out]; exact hkN), List.getElem?_eq_getElem _⟩
  have c9 := hown12.cellAt (k * 10 + 9) (by omega)
  rw [flatQ_get hqk 9 (by decide)] at c9
  replace c9 : w12.cell? ⟨g, k * 10 + 9, none⟩ = some (.int .i64 qk.sv) := c9
  have cf := hown12.frozenAt (k * 10 + 9)
  have hgw : g < w12.heap.size := own_lt10 hown12 g rfl
  have hgb : w4.heap.size ≤ g := owns_row hown12 g rfl
  have hst := (hown12.stored (k * 10 + 9) (.int .i64 n1)).1
  rw [flatQ_set hqk] at hst
  have hB13 := Lib.hid (hB12.out.setCell (p := ⟨g, k * 10 + 9, none⟩) (by simpa using hgb) (.int .i64 n1))
  have hst' := Lib.hid hst
  clear hst hown12 hqk
  go_upto_region 4 with fail
  generalize (w12.setCell ⟨g, k * 10 + 9, none⟩ (.int .i64 n1)) = wz at *
  have hBz := Lib.hid (hbB.out.trans (hB13.out.mono hbB.out.size))
  have hsz := hB13.out.size
  have hrow := Lib.hid ((hro4.out.keep hB13.out (Nat.le_refl _)).more hsz)
  have hrqs := Lib.hid ((hqr4.out.keep hB13.out (Nat.le_refl _)).more hsz)
  have hcutz := Lib.hid ((hcut4.out.keep hB13.out (Nat.le_refl _)).more hsz)
  have hodd : Hid (Rqs wz.heap.size wz (.slice (some ⟨g, 0, none⟩) Nt k11) (t.set k { qk with sv := n1 })) := Lib.hid (Rqs.of_owns hst'.out (by rw [List.length_set, hNt'.out]) (Nat.le_refl _))
  have hVz := hV4'.out.keep hB13.out hV4'.out.inside
  have hYz := hY4.out.keep hB13.out hY4.out.inside
  have hZz := hZ4.out.keep hB13.out hZ4.out.inside
  have v0 := hVz.cell 0
  have v1 := hVz.cell 1
  have v2 := hVz.cell 2
  have v3 := hVz.cell 3
  have v4 := hVz.cell 4
  have y0 := hYz.cell 0
  have y1 := hYz.cell 1
  have y2 := hYz.cell 2
  have y3 := hYz.cell 3
  have y4 := hYz.cell 4
  have y5 := hYz.cell 5
  have z0 := hZz.cell 0
  have z1 := hZz.cell 1
  simp at v0 v1 v2 v3 v4 y0 y1 y2 y3 y4 y5 z0 z1
  have kv0 := cell_regrown v0
  have kv1 := cell_regrown v1
  have kv2 := cell_regrown v2
  have kv3 := cell_regrown v3
  have kv4 := cell_regrown v4
  have ky0 := cell_regrown y0
  have ky1 := cell_regrown y1
  have ky2 := cell_regrown y2
  have ky3 := cell_regrown y3
  have ky4 := cell_regrown y4
  have ky5 := cell_regrown y5
  have kz0 := cell_regrown z0
  have kz1 := cell_regrown z1
  clear v0 v1 v2 v3 v4 y0 y1 y2 y3 y4 y5 z0 z1
  have hvs := hVz.inside
  have hys := hYz.inside
  have hzs := hZz.inside
  clear hVz hYz hZz hV4' hY4 hZ4 hro4 hqr4 hcut4 hB13 hB12 hst' c9 cf
  have hT1 := fun d os => Calls.regrown_of (told_any v _ _ l t hl6.out hnum.out n0 n1 hn0'.out hn1'.out (grow (redrawn wz d) os) (hrow.out.on (below_regrown wz d os)) (hrqs.out.on (below_regrown wz d os)))
  have hT2 := fun d os => Calls.regrown_of (told_any v _ _ l _ hl6.out hnum.out n0 n1 hn0'.out hn1'.out (grow (redrawn wz d) os) (hrow.out.on (below_regrown wz d os)) (hodd.out.on (below_regrown wz d os)))
  have hT3 := fun d os => Calls.regrown_of (told_any v _ _ lc t hcutL.out hcutN.out n0 n1 hn0'.out hn1'.out (grow (redrawn wz d) os) (hcutz.out.on (below_regrown wz d os)) (hrqs.out.on (below_regrown wz d os)))
  have hT4 := fun d os => Calls.regrown_of (told_any x2 _ _ l t hl6.out hnum.out n0 n1 hn0'.out hn1'.out (grow (redrawn wz d) os) (hrow.out.on (below_regrown wz d os)) (hrqs.out.on (below_regrown wz d os)))
  have hT5 := fun d os => Calls.regrown_of (works_any (grow (redrawn wz d) os))
  refine wp_region_quiet_below (by kernel_rfl) (by kernel_rfl) ?_
  repeat (go_big_quiet_step (first | with_reducible exact hT1 _ _ | with_reducible exact hT2 _ _ | with_reducible exact hT3 _ _ | with_reducible exact hT4 _ _ | with_reducible exact hT5 _ _))
  refine wpQuiet_nil ?_
  intro _ hw'
  obtain ⟨⟨dr, osr⟩, hw''⟩ := hw'
  subst hw''
  have hfin := Lib.hid (hBz.out.trans ((below_regrown wz dr osr).mono hBz.out.size))
  clear hT1 hT2 hT3 hT4 hT5
  go_wp2
  go_ret
  exact ⟨rfl, hfin.out⟩

end Go.Proofs.Ytfoflfeaegfnnaa.Slack

import Derived.Test.YteclpblfleakhaaDoorPkClose
import Derived.Test.YteclpblfleakhaaDoorPkPriceMoreMath

namespace Go.Proofs.YteclpblfleakhaaDoor.Price
open Go.RowKit Go.Sort Go.Proofs.YteclpblfleakhaaDoor.Mem Go.Proofs.YteclpblfleakhaaDoor.Order Go.Proofs.YteclpblfleakhaaDoor.Route Go.Proofs.YteclpblfleakhaaDoor.When Go.Proofs.YteclpblfleakhaaDoor.Load Go.Proofs.YteclpblfleakhaaDoor.Feas Go.Proofs.YteclpblfleakhaaDoor.Ins Go.Proofs.YteclpblfleakhaaDoor.Cheap Go.Proofs.YteclpblfleakhaaDoor.Plan
set_option linter.unusedVariables false
theorem put_rws {M : Nat} {E : Nat → Prop} {W W' : World} {v : Value} {us : List Value} {ls : List (List (Int × Int))} (h : RwsO M W v us ls) (hc : Chg E W W') (hE : ∀ k, E k → k < M ∨ W.heap.size ≤ k) : Rws W'.heap.size W' v ls := by
 have off : ∀ {b s n : Nat} {e : TypeId} {v : Value} {xs : List Value}, W.ownsRow b e s v n xs → M ≤ b → Off E v := fun h1 hb g hg he => by
  have h2 := World.ownsRow.lt h1 g hg
  have := hE g he
  omega
 have h2 : RwsO M W' v us ls := ⟨hc.owns h.1 (off h.1 (Nat.le_refl _)), fun i u l hu hl => hc.owns (h.2 i u l hu hl) (off (h.2 i u l hu hl) (Nat.le_refl _))⟩
 exact h2.rws
theorem eq_stop (a b c d : Int) (w : World) : Sem.run Tryd.prog (Op.equalIn 10000 61 (Value.agg #[.int .i64 a, .int .i64 b]) (Value.agg #[.int .i64 c, .int .i64 d])) w = .ok (decide (a = c) && decide (b = d)) w := by
 unfold Op.equalIn
 simp [go_sem]
 by_cases h1 : a = c <;> by_cases h2 : b = d <;> simp [h1, h2]
theorem eq_stop_same (a b : Int) (w : World) : Sem.run Tryd.prog (Op.equalIn 10000 61 (Value.agg #[.int .i64 a, .int .i64 b]) (Value.agg #[.int .i64 a, .int .i64 b])) w = .ok true w := by rw [eq_stop]; simp
structure PlAt (W0 : World) (x4 x7 : Option Addr) (c4 c7 : Nat) (S : St) (r : Int) (W : World) : Prop where
 pre : Rws W.heap.size W (.slice x4 2 c4) S.rows
 post : Rws W.heap.size W (.slice x7 2 c7) (putS S r).rows
 b : Below W0.heap.size W0 W
theorem PlAt.on {W0 : World} {x4 x7 : Option Addr} {c4 c7 : Nat} {S : St} {r : Int} {W W' : World} (h : PlAt W0 x4 x7 c4 c7 S r W) (hb : Below W.heap.size W W') : PlAt W0 x4 x7 c4 c7 S r W' := ⟨h.pre.on hb, h.post.on hb, h.b.trans (hb.mono h.b.size)⟩
set_option maxRecDepth 100000 in
set_option maxHeartbeats 16000000 in
theorem place_walk (xb : Option Addr) (Nb cb : Nat) (bs : List Int) (a b c f : Int) (xp : Option Addr) (Np cp : Nat) (ps : List Int) (x : Int) (hx : 0 ≤ x ∧ x < 256) (w : World) (hsg : Sg3 w) (hrow : RowB w.heap.size w (.slice xb Nb cb) 1 (bs.map byV)) (hby : ∀ x ∈ bs, 0 ≤ x ∧ x < 256) (ha : 0 ≤ a ∧ a < 256) (hb : 0 ≤ b ∧ b < 256) (hf : 0 ≤ f ∧ f < 256) (hprow : RowB w.heap.size w (.slice xp Np cp) 1 (ps.map byV)) (hpby : ∀ x ∈ ps, 0 ≤ x ∧ x < 256) :
 Calls Tryd.prog 4 #[.agg #[.slice xb Nb cb, .int .u8 a, .int .u8 b, .int .i64 c, .int .u8 f], .slice xp Np cp, .int .u8 x] w fun e w' => e = .returned (.bool true) ∧ Below w.heap.size w w' := by
 obtain ⟨q, hq⟩ : ∃ q, w.heap.size = q := ⟨_, rfl⟩
 obtain ⟨w0, hw0⟩ : ∃ w0, w.alloc (.cells #[.slice xb Nb cb, .int .u8 a, .int .u8 b, .int .i64 c, .int .u8 f] 26) = w0 := ⟨_, rfl⟩
 have hs0 : w0.heap.size = q + 1 := by rw [← hw0]; simp [hq]
 have hb0 : Below q w w0 := by rw [← hw0]; exact (Below.refl _ _).alloc (by omega) _
 have hd0 : At w0 q 26 #[.slice xb Nb cb, .int .u8 a, .int .u8 b, .int .i64 c, .int .u8 f] := by rw [← hw0]; exact At.new_ _ _ _ hq.symm
 have hsg0 := Lib.hid (hsg.on (by rw [hq]; exact hb0))
 rw [hq] at hrow hprow ⊢
 have hw0' := Lib.hid hw0
 have hq' := Lib.hid hq
 have hmem := Lib.hid (And.intro hrow (And.intro hby (And.intro ha (And.intro hb hf))))
 have hpm := Lib.hid (And.intro hprow hpby)
 have hWk := works_any w0 hsg0.out
 clear hw0 hq hsg hrow hby ha hb hf hprow hpby
 go_enter Tryd.func4, Tryd.ntmps4
 go_upto_region 1 with fail
 try simp only [hq'.out]
 try rw [hw0'.out]
 go_wp2_with fail
 refine hWk.mono ?_
 clear hWk
 rintro e w1 ⟨rfl, hb1⟩
 have hd1 := hd0.keep hb1 hd0.inside
 have hB1 := Lib.hid (hb0.trans (hb1.mono (by omega : q ≤ w0.heap.size)))
 have hsg1 := Lib.hid (hsg0.out.on hb1)
 have hs1 : q + 1 ≤ w1.heap.size := by have := hb1.size; omega
 have hPt := parts14_any xb Nb cb bs a b c f w1 ((RowB.keep hmem.out.1 hB1.out (Nat.le_refl _)).more (by omega)) hmem.out.2.1 hmem.out.2.2.1 hmem.out.2.2.2.1 hmem.out.2.2.2.2
 have c0 := hd1.cell 0
 have c1 := hd1.cell 1
 have c2 := hd1.cell 2
 have c3 := hd1.cell 3
 have c4 := hd1.cell 4
 simp at c0 c1 c2 c3 c4
 clear hd0 hb0 hb1 hsg0 hmem hs0
 go_wp2_with fail
 refine hPt.mono ?_
 clear hPt c0 c1 c2 c3 c4 hd1
 rintro e w2 ⟨⟨gf, gr, ut, u0, u1, v0, v1, l0, l1, t, rfl, hPa⟩, hb2⟩
 have hpt := own_plain3 hPa.ot
 obtain ⟨xt, ct, rfl, -, -⟩ := owns_slice hPa.ot
 have hPa' := Lib.hid hPa
 have hsg2 := Lib.hid (hsg1.out.on hb2)
 have hB2 := Lib.hid (hB1.out.trans (hb2.mono (by omega)))
 have hs2 : q ≤ w2.heap.size := by have := hb2.size; omega
 have hm2 := Lib.hid hPa.mem
 have htl := hPa.tl
 rw [htl] at hpt hm2 ⊢
 have hn0 := hPa.new0
 have hMd := made_any xp Np cp ps w2 hsg2.out hm2.out.1 hm2.out.2.2 (.inr ⟨_, _, _, rfl⟩) hpt hn0.1 hn0.2 (by simp) (by omega) ((RowB.keep hpm.out.1 hB2.out (Nat.le_refl _)).more hs2) hpm.out.2
 clear hPa hb2 hB1 hsg1 hpm hpt hn0
 go_wp2_with fail
 refine hMd.mono ?_
 clear hMd
 rintro e w3 ⟨p, rfl, S, hvs0, ht0, hO⟩
 have hvt := Lib.hid (And.intro hvs0 ht0)
 have hP3 := Lib.hid hO
 have hB3 := Lib.hid (hB2.out.trans (hO.b.mono hs2))
 have hs3 : q ≤ w3.heap.size := Nat.le_trans hs2 hO.sz
 have hV3 : Hid (Vhs w3.heap.size w3 (.slice (some ⟨gf, 0, none⟩) 2 2) S.vs) := Lib.hid (by rw [hvs0]; exact hm2.out.1.on hO.b)
 have hT3 : Hid (Rqs w3.heap.size w3 (.slice xt 8 ct) S.t) := Lib.hid (by rw [ht0]; exact Rqs.on hm2.out.2.2 hO.b)
 have hnv : Hid (S.vs.length = 2) := Lib.hid (by rw [hvs0]; rfl)
 have hnt : Hid (S.t.length = 8) := Lib.hid (by rw [ht0]; exact htl)
 clear hO hvs0 ht0 htl
 obtain ⟨r, hr⟩ : ∃ r, x % 8 = r := ⟨_, rfl⟩
 obtain ⟨hx0, hx1⟩ := hx
 have hrb : 0 ≤ r ∧ r < 8 := by omega
 obtain ⟨D, G, hA, hG0⟩ := hP3.out.ex
 have hA3 := Lib.hid hA
 have hG3 := Lib.hid hG0
 have hok := Lib.hid hP3.out.ok
 have hGl : Hid (∀ k, G k → k < w3.heap.size) := Lib.hid (fun k hk => hA.lt k (hA.sub k hk))
 have hC := Routes_any w3 hA hok.out
 clear hA hG0
 go_wp2_with fail
 refine hC.mono ?_
 clear hC
 rintro e w4 ⟨⟨u4, rfl, us4, hu4⟩, hb4⟩
 have hrl : S.rows.length = 2 := by rw [hok.out.len, hnv.out]
 have hA4 := Lib.hid (hA3.out.on hb4)
 have hP4 := Lib.hid (hP3.out.on hb4)
 have hR4 := Lib.hid hu4
 obtain ⟨x4, c4, rfl, -, -⟩ := owns_slice hu4.1
 rw [hrl] at hR4 ⊢
 have hlen : Hid (∀ l ∈ S.rows, l.length ≤ 100) := Lib.hid (fun l hl => by have := ok_short hok.out hl; omega)
 have hnum : Hid (∀ l ∈ S.rows, Nums l) := Lib.hid (fun l hl => ok_nums hok.out hl)
 have hC := Least_any S r w4 hP4.out.sg.sp (hV3.out.on hb4) (by have := hR4.out.rws; exact this) (Rqs.on hT3.out hb4) hlen.out hnum.out hok.out.tl
 have hs34 := hb4.size
 clear hu4 hb4 hA3 hP3
 obtain ⟨I, hI⟩ : ∃ I, (leastV S r).1 = I := ⟨_, rfl⟩
 obtain ⟨i, hi⟩ : ∃ i, (leastV S r).2.i = i := ⟨_, rfl⟩
 obtain ⟨j, hj⟩ : ∃ j, (leastV S r).2.j = j := ⟨_, rfl⟩
 obtain ⟨so, hso⟩ : ∃ so, (leastQ (waysS S r)).isSome = so := ⟨_, rfl⟩
 rw [hI, hi, hj, hso] at hC
 have hy : Hid (priceE S r = 0 → so = true ∧ ∃ (k : Nat) (l : List (Int × Int)), I = k ∧ S.rows[k]? = some l ∧ mayW l r i j = true ∧ (putS S r).rows = S.rows.set k (moreL l r i j)) := Lib.hid (fun he => by
  obtain ⟨h1, k, v, l, h2, h3, h4, h5, h6, h7⟩ := place_put hok.out he
  rw [hso] at h1
  rw [hI] at h2
  rw [hi, hj] at h5 h7
  exact ⟨h1, k, l, h2, h4, h5, by rw [h7]⟩)
 have hn : Hid (priceE S r ≠ 0 → so = false ∧ putS S r = S) := Lib.hid (fun he => by
  obtain ⟨h1, h2, -⟩ := place_no hok.out he
  rw [← hso, h1]
  exact ⟨rfl, h2⟩)
 clear hI hi hj hso
 go_wp2_with fail
 refine hC.mono ?_
 clear hC
 rintro e w5 ⟨rfl, hb5⟩
 have hA5 := Lib.hid (hA4.out.on hb5)
 have hP5 := Lib.hid (hP4.out.on hb5)
 have hR5 := Lib.hid (hR4.out.1)
 have hB45 := Lib.hid hb5
 have hC := Put_any r w5 hA5.out hok.out hP5.out.sg.sg
 obtain ⟨E, hE⟩ : ∃ E, priceE S r = E := ⟨_, rfl⟩
 obtain ⟨n, hnn⟩ : ∃ n, priceN S r = n := ⟨_, rfl⟩
 rw [hE, hnn] at hC
 rw [hE] at hy hn
 have hok6 := Lib.hid (put_ok hok.out r)
 clear hb5 hA4 hP4 hE hnn
 go_wp2_with fail
 refine hC.mono ?_
 clear hC
 rintro e w6 ⟨rfl, hp6, hc6⟩
 have hP6 := Lib.hid (hP5.out.step hG3.out hp6 hc6 hok6.out)
 have hR6 : Hid (Rws w6.heap.size w6 (.slice x4 2 c4) S.rows) := Lib.hid (put_rws hR4.out ((Chg.of_below (D := G) hB45.out).trans hc6) (fun k hk => .inl (hGl.out k hk)))
 obtain ⟨D6, G6, hA, hG6⟩ := hP6.out.ex
 have hC := Routes_any w6 hA hok6.out
 have hB6 := Lib.hid (hB2.out.trans (hP6.out.b.mono hs2))
 have hs6 : q ≤ w6.heap.size := Nat.le_trans hs2 hP6.out.sz
 clear hp6 hc6 hA hG6 hA5 hP5 hR4 hR5 hG3 hGl hB45
 go_wp2_with fail
 refine hC.mono ?_
 clear hC
 rintro e w7 ⟨⟨u7, rfl, us7, hu7⟩, hb7⟩
 have hrl7 : (putS S r).rows.length = 2 := by rw [hok6.out.len, (putS_t S r).2, hnv.out]
 have hR7 := hu7.rws
 obtain ⟨x7, c7, rfl, -, -⟩ := owns_slice hu7.1
 rw [hrl7] at hR7 ⊢
 have hQ7 : Hid (PlAt w7 x4 x7 c4 c7 S r w7) := Lib.hid ⟨hR6.out.on hb7, hR7, Below.refl _ _⟩
 have hB7 := Lib.hid (hB6.out.trans (hb7.mono hs6))
 have hs7 : q ≤ w7.heap.size := Nat.le_trans hs6 hb7.size
 clear hu7 hb7 hR7 hR6 hP6 hB6 hs6 hV3 hT3 hB3
 have hrl' := Lib.hid hrl
 have hrl7' := Lib.hid hrl7
 clear hrl hrl7 hr hrb
 obtain ⟨RI, hRI⟩ : ∃ R : Nat → List (Int × Int) → Prop, R = fun k m => (putS S r).rows[k]? = some m := ⟨_, rfl⟩
 by_cases hE0 : E = 0
 case neg =>
  obtain ⟨rfl, hpt⟩ := hn.out hE0
  have hE1 : (E == 0) = false := by simpa using hE0
  have hE2 : (E != 0) = true := by simpa using hE0
  go_wp2
  go_loopw [21] (fun c wr => ∃ k : Nat, k ≤ 2 ∧ c = .int .i64 k ∧ Hid (PlAt w7 x4 x7 c4 c7 S r wr))
   (fun c _ => 2 - (intOf c).toNat)
  case atStart => exact ⟨0, by omega, rfl, hQ7⟩
  case round =>
   clear hQ7
   obtain ⟨k, hk, rfl, hQ⟩ := hrel
   by_cases hlt : k < 2
   case neg =>
    obtain rfl : k = 2 := by omega
    have hB9 := Lib.hid (hB7.out.trans (hQ.out.b.mono hs7))
    clear hQ
    go_wp2
    go_ret
    exact ⟨rfl, hB9.out⟩
   obtain ⟨l, hl⟩ : ∃ l, S.rows[k]? = some l := ⟨S.rows[k]'(by rw [hrl'.out]; exact hlt), List.getElem?_eq_getElem _⟩
   obtain ⟨m, hm⟩ : ∃ m, (putS S r).rows[k]? = some m := ⟨(putS S r).rows[k]'(by rw [hrl7'.out]; exact hlt), List.getElem?_eq_getElem _⟩
   obtain ⟨gb, ob, ub, rfl, hgb, cb0, hrb⟩ := Rws.at hQ.out.pre hl
   obtain ⟨ga, oa, ua, rfl, hga, ca0, hra⟩ := Rws.at hQ.out.post hm
   have hkF : (k : Int) < 2 := by omega
   have hkN := Lib.hid hlt
   have hm' := Lib.hid hm
   have hl' := Lib.hid hl
   clear hlt
   obtain rfl : m = l := by rw [hpt] at hm; exact Option.some.inj (hm.symm.trans hl)
   clear hl hm
   obtain ⟨xw, N, cw, rfl, hmN, -⟩ := hrb.opened
   obtain ⟨xu, Nu, cu, rfl, hNu, -⟩ := hra.opened
   obtain rfl : N = Nu := by have := hNu.out; have := hmN.out; omega
   have hQ9 : Hid (PlAt w7 (some ⟨gb, ob, none⟩) (some ⟨ga, oa, none⟩) c4 c7 S r wr ∧ Row wr.heap.size wr (.slice xw N cw) m) := Lib.hid ⟨hQ.out, hrb⟩
   have hN16 : N ≤ 16 := by have h1 := ok_short hok6.out (List.mem_of_getElem? hm'.out); have := hmN.out; omega
   clear hrb hra hQ hNu
   go_wp2
   go_loopw [23] (fun c wr => ∃ j : Nat, j ≤ N ∧ c = .int .i64 j ∧ Hid (PlAt w7 (some ⟨gb, ob, none⟩) (some ⟨ga, oa, none⟩) c4 c7 S r wr ∧ Row wr.heap.size wr (.slice xw N cw) m))
    (fun c _ => N - (intOf c).toNat)
   case atStart => exact ⟨0, Nat.zero_le _, rfl, hQ9⟩
   case round =>
    clear hQ9
    obtain ⟨j2, hj2, rfl, hQ9⟩ := hrel
    by_cases hlj : j2 < N
    case neg =>
     obtain rfl : j2 = N := by omega
     have hQa := Lib.hid hQ9.out.1
     clear hQ9
     go_wp2
     go_roundw
     case rel => exact ⟨k + 1, hkN.out, by go_num, hQa⟩
     case measure => have := hkN.out; simp [intOf]; omega
    obtain ⟨s, hs⟩ : ∃ s, m[j2]? = some s := ⟨m[j2]'(by rw [hmN.out]; exact hlj), List.getElem?_eq_getElem _⟩
    obtain ⟨gw, ow, rfl, hgw, e1, e2⟩ := Row.stop hQ9.out.2 hs
    obtain ⟨ga2, oa2, ua2, ea, hga2, ca0, hra⟩ := Rws.at hQ9.out.1.post hm'.out
    cases ea
    obtain ⟨xu, Nu, cu, rfl, hNu, -⟩ := hra.opened
    obtain rfl : N = Nu := by have := hNu.out; have := hmN.out; omega
    obtain ⟨gu, ou, rfl, hgu, d1, d2⟩ := Row.stop hra hs
    obtain ⟨s1, s2⟩ := s
    simp only at e1 e2 d1 d2
    have hji : (j2 : Int) < (N : Int) := by omega
    have hki2 : (k : Int) < 2 := by have := hkN.out; omega
    have hjN := Lib.hid hlj
    have k1 := cell_regrown e1
    have k2 := cell_regrown e2
    have k3 := cell_regrown d1
    have k4 := cell_regrown d2
    have k5 := cell_regrown ca0
    have hQz := Lib.hid hQ9
    have heq := eq_stop_same
    clear hs hra hlj hQ9 hNu
    go_upto_region 25 with fail
    refine wp_region_quiet_below (by kernel_rfl) (by kernel_rfl) ?_
    repeat (go_big_quiet_step (fail))
    refine wpQuiet_nil ?_
    intro _ hw'
    obtain ⟨⟨dq, osq⟩, hw''⟩ := hw'
    subst hw''
    have hQa : Hid (PlAt w7 (some ⟨gb, ob, none⟩) (some ⟨ga, oa, none⟩) c4 c7 S r (grow (redrawn wr dq) osq) ∧ Row (grow (redrawn wr dq) osq).heap.size (grow (redrawn wr dq) osq) (.slice (some ⟨gw, ow, none⟩) N cw) m) := Lib.hid ⟨hQz.out.out.1.on (below_regrown wr dq osq), hQz.out.out.2.on (below_regrown wr dq osq)⟩
    clear k1 k2 k3 k4 k5 e1 e2 d1 d2 ca0
    generalize grow (redrawn wr dq) osq = wz at *
    go_wp2
    go_roundw
    case rel => exact ⟨j2 + 1, hjN.out, by go_num, hQa⟩
    case measure => have := hjN.out; simp [intOf]; omega
 case pos =>
  subst hE0
  obtain ⟨rfl, k0, l0', rfl, hl0, hmw, hset⟩ := hy.out rfl
  have hk0 : k0 < 2 := by have := (List.getElem?_eq_some_iff.1 hl0).1; rw [hrl'.out] at this; exact this
  have hl0' := Lib.hid hl0
  have hmw' := Lib.hid hmw
  have hset' := Lib.hid hset
  clear hl0 hmw hset
  go_wp2
  go_loopw [21] (fun c wr => ∃ k : Nat, k ≤ 2 ∧ c = .int .i64 k ∧ Hid (PlAt w7 x4 x7 c4 c7 S r wr))
   (fun c _ => 2 - (intOf c).toNat)
  case atStart => exact ⟨0, by omega, rfl, hQ7⟩
  case round =>
   clear hQ7
   obtain ⟨k, hk, rfl, hQ⟩ := hrel
   by_cases hlt : k < 2
   case neg =>
    obtain rfl : k = 2 := by omega
    have hB9 := Lib.hid (hB7.out.trans (hQ.out.b.mono hs7))
    clear hQ
    go_wp2
    go_ret
    exact ⟨rfl, hB9.out⟩
   obtain ⟨l, hl⟩ : ∃ l, S.rows[k]? = some l := ⟨S.rows[k]'(by rw [hrl'.out]; exact hlt), List.getElem?_eq_getElem _⟩
   obtain ⟨m, hm⟩ : ∃ m, (putS S r).rows[k]? = some m := ⟨(putS S r).rows[k]'(by rw [hrl7'.out]; exact hlt), List.getElem?_eq_getElem _⟩
   obtain ⟨gb, ob, ub, rfl, hgb, cb0, hrb⟩ := Rws.at hQ.out.pre hl
   obtain ⟨ga, oa, ua, rfl, hga, ca0, hra⟩ := Rws.at hQ.out.post hm
   have hkF : (k : Int) < 2 := by omega
   have hkN := Lib.hid hlt
   have hm' := Lib.hid hm
   have hl' := Lib.hid hl
   clear hlt
   by_cases hkI : k = k0
   case neg =>
    have hne : ((k : Int) == (k0 : Int)) = false := by simp; omega
    obtain rfl : m = l := by rw [hset'.out, List.getElem?_set_ne (fun e => hkI e.symm)] at hm; exact Option.some.inj (hm.symm.trans hl)
    clear hl hm
    obtain ⟨xw, N, cw, rfl, hmN, -⟩ := hrb.opened
    obtain ⟨xu, Nu, cu, rfl, hNu, -⟩ := hra.opened
    obtain rfl : N = Nu := by have := hNu.out; have := hmN.out; omega
    have hQ9 : Hid (PlAt w7 (some ⟨gb, ob, none⟩) (some ⟨ga, oa, none⟩) c4 c7 S r wr ∧ Row wr.heap.size wr (.slice xw N cw) m) := Lib.hid ⟨hQ.out, hrb⟩
    have hN16 : N ≤ 16 := by have h1 := ok_short hok6.out (List.mem_of_getElem? hm'.out); have := hmN.out; omega
    clear hrb hra hQ hNu
    go_wp2
    go_loopw [23] (fun c wr => ∃ j : Nat, j ≤ N ∧ c = .int .i64 j ∧ Hid (PlAt w7 (some ⟨gb, ob, none⟩) (some ⟨ga, oa, none⟩) c4 c7 S r wr ∧ Row wr.heap.size wr (.slice xw N cw) m))
     (fun c _ => N - (intOf c).toNat)
    case atStart => exact ⟨0, Nat.zero_le _, rfl, hQ9⟩
    case round =>
     clear hQ9
     obtain ⟨j2, hj2, rfl, hQ9⟩ := hrel
     by_cases hlj : j2 < N
     case neg =>
      obtain rfl : j2 = N := by omega
      have hQa := Lib.hid hQ9.out.1
      clear hQ9
      go_wp2
      go_roundw
      case rel => exact ⟨k + 1, hkN.out, by go_num, hQa⟩
      case measure => have := hkN.out; simp [intOf]; omega
     obtain ⟨s, hs⟩ : ∃ s, m[j2]? = some s := ⟨m[j2]'(by rw [hmN.out]; exact hlj), List.getElem?_eq_getElem _⟩
     obtain ⟨gw, ow, rfl, hgw, e1, e2⟩ := Row.stop hQ9.out.2 hs
     obtain ⟨ga2, oa2, ua2, ea, hga2, ca0, hra⟩ := Rws.at hQ9.out.1.post hm'.out
     cases ea
     obtain ⟨xu, Nu, cu, rfl, hNu, -⟩ := hra.opened
     obtain rfl : N = Nu := by have := hNu.out; have := hmN.out; omega
     obtain ⟨gu, ou, rfl, hgu, d1, d2⟩ := Row.stop hra hs
     obtain ⟨s1, s2⟩ := s
     simp only at e1 e2 d1 d2
     have hji : (j2 : Int) < (N : Int) := by omega
     have hki2 : (k : Int) < 2 := by have := hkN.out; omega
     have hjN := Lib.hid hlj
     have k1 := cell_regrown e1
     have k2 := cell_regrown e2
     have k3 := cell_regrown d1
     have k4 := cell_regrown d2
     have k5 := cell_regrown ca0
     have hQz := Lib.hid hQ9
     have heq := eq_stop_same
     clear hs hra hlj hQ9 hNu
     go_upto_region 25 with fail
     refine wp_region_quiet_below (by kernel_rfl) (by kernel_rfl) ?_
     repeat (go_big_quiet_step (fail))
     refine wpQuiet_nil ?_
     intro _ hw'
     obtain ⟨⟨dq, osq⟩, hw''⟩ := hw'
     subst hw''
     have hQa : Hid (PlAt w7 (some ⟨gb, ob, none⟩) (some ⟨ga, oa, none⟩) c4 c7 S r (grow (redrawn wr dq) osq) ∧ Row (grow (redrawn wr dq) osq).heap.size (grow (redrawn wr dq) osq) (.slice (some ⟨gw, ow, none⟩) N cw) m) := Lib.hid ⟨hQz.out.out.1.on (below_regrown wr dq osq), hQz.out.out.2.on (below_regrown wr dq osq)⟩
     clear k1 k2 k3 k4 k5 e1 e2 d1 d2 ca0
     generalize grow (redrawn wr dq) osq = wz at *
     go_wp2
     go_roundw
     case rel => exact ⟨j2 + 1, hjN.out, by go_num, hQa⟩
     case measure => have := hjN.out; simp [intOf]; omega
   case pos =>
    obtain rfl : k = k0 := hkI
    have hml : m = moreL l r i j := by
     obtain rfl : l0' = l := Option.some.inj (hl0'.out.symm.trans hl)
     rw [hset'.out, List.getElem?_set_self (by rw [hrl'.out]; exact hk0)] at hm
     exact (Option.some.inj hm).symm
    have hml' := Lib.hid hml
    obtain rfl : l0' = l := Option.some.inj (hl0'.out.symm.trans hl)
    have hC := With_any ub l0' r i j (by have := hlen.out l0' (List.mem_of_getElem? hl); omega) wr hrb
    rw [hmw'.out] at hC
    obtain ⟨xq, Nq, cq, rfl, -⟩ := hrb.opened
    have hQw := Lib.hid hQ
    clear hl hm hml hrb hra hQ ca0
    go_wp2_with fail
    refine hC.mono ?_
    clear hC
    rintro e w8 ⟨⟨uw, rfl, huw, -⟩, hb8⟩
    rw [withV_more hmw'.out, ← hml'.out] at huw
    obtain ⟨xw, N, cw, rfl, hmN, -⟩ := huw.opened
    have hQ8 := hQw.out.out.on hb8
    obtain ⟨ga2, oa2, ua2, ea, hga2, ca0, hra⟩ := Rws.at hQ8.post hm'.out
    cases ea
    obtain ⟨xu, Nu, cu, rfl, hNu, -⟩ := hra.opened
    obtain rfl : N = Nu := by have := hNu.out; have := hmN.out; omega
    have hQ9 : Hid (PlAt w7 (some ⟨gb, ob, none⟩) (some ⟨ga, oa, none⟩) c4 c7 S r w8 ∧ Row w8.heap.size w8 (.slice xw N cw) m) := Lib.hid ⟨hQ8, huw⟩
    have hN16 : N ≤ 16 := by have h1 := ok_short hok6.out (List.mem_of_getElem? hm'.out); have := hmN.out; omega
    clear huw hra hQ8 hNu hb8 cb0
    go_wp2
    go_loopw [23] (fun c wr => ∃ j : Nat, j ≤ N ∧ c = .int .i64 j ∧ Hid (PlAt w7 (some ⟨gb, ob, none⟩) (some ⟨ga, oa, none⟩) c4 c7 S r wr ∧ Row wr.heap.size wr (.slice xw N cw) m))
     (fun c _ => N - (intOf c).toNat)
    case atStart => exact ⟨0, Nat.zero_le _, rfl, hQ9⟩
    case round =>
     clear hQ9
     obtain ⟨j2, hj2, rfl, hQ9⟩ := hrel
     by_cases hlj : j2 < N
     case neg =>
      obtain rfl : j2 = N := by omega
      have hQa := Lib.hid hQ9.out.1
      clear hQ9
      go_wp2
      go_roundw
      case rel => exact ⟨k + 1, hkN.out, by go_num, hQa⟩
      case measure => have := hkN.out; simp [intOf]; omega
     obtain ⟨s, hs⟩ : ∃ s, m[j2]? = some s := ⟨m[j2]'(by rw [hmN.out]; exact hlj), List.getElem?_eq_getElem _⟩
     obtain ⟨gw, ow, rfl, hgw, e1, e2⟩ := Row.stop hQ9.out.2 hs
     obtain ⟨ga2, oa2, ua2, ea, hga2, ca0, hra⟩ := Rws.at hQ9.out.1.post hm'.out
     cases ea
     obtain ⟨xu, Nu, cu, rfl, hNu, -⟩ := hra.opened
     obtain rfl : N = Nu := by have := hNu.out; have := hmN.out; omega
     obtain ⟨gu, ou, rfl, hgu, d1, d2⟩ := Row.stop hra hs
     obtain ⟨s1, s2⟩ := s
     simp only at e1 e2 d1 d2
     have hji : (j2 : Int) < (N : Int) := by omega
     have hki2 : (k : Int) < 2 := by have := hkN.out; omega
     have hjN := Lib.hid hlj
     have k1 := cell_regrown e1
     have k2 := cell_regrown e2
     have k3 := cell_regrown d1
     have k4 := cell_regrown d2
     have k5 := cell_regrown ca0
     have hQz := Lib.hid hQ9
     have heq := eq_stop_same
     clear hs hra hlj hQ9 hNu
     go_upto_region 25 with fail
     refine wp_region_quiet_below (by kernel_rfl) (by kernel_rfl) ?_
     repeat (go_big_quiet_step (fail))
     refine wpQuiet_nil ?_
     intro _ hw'
     obtain ⟨⟨dq, osq⟩, hw''⟩ := hw'
     subst hw''
     have hQa : Hid (PlAt w7 (some ⟨gb, ob, none⟩) (some ⟨ga, oa, none⟩) c4 c7 S r (grow (redrawn wr dq) osq) ∧ Row (grow (redrawn wr dq) osq).heap.size (grow (redrawn wr dq) osq) (.slice (some ⟨gw, ow, none⟩) N cw) m) := Lib.hid ⟨hQz.out.out.1.on (below_regrown wr dq osq), hQz.out.out.2.on (below_regrown wr dq osq)⟩
     clear k1 k2 k3 k4 k5 e1 e2 d1 d2 ca0
     generalize grow (redrawn wr dq) osq = wz at *
     go_wp2
     go_roundw
     case rel => exact ⟨j2 + 1, hjN.out, by go_num, hQa⟩
     case measure => have := hjN.out; simp [intOf]; omega
end Go.Proofs.YteclpblfleakhaaDoor.Price
/-
  PricePlace, Put puts a request where Least says, all other routes stay, returns true: for all drafts of vehicles and requests, what is put in ahead (eight at most), and the request. Its condition: package load's variable signs, package cheap's variable none and package price's variable none are as the program's text lays them when the call begins, which the card ties to that text.
-/
namespace Go.Proofs.YteclpblfleakhaaDoor.pricePlace
open Go.ChangeShapes Go.WideShapes Go.ChangeAt Go.RowKit Go.Sort
open Go.Proofs.YteclpblfleakhaaDoor.Laid Go.Proofs.YteclpblfleakhaaDoor.When Go.Proofs.YteclpblfleakhaaDoor.Plan Go.Proofs.YteclpblfleakhaaDoor.Price
set_option linter.unusedVariables false
set_option maxRecDepth 100000 in
theorem lifted (os : Os) (started : os.Started) (H : Type) (enc : TypeId × Value → H) :
 ReturnsInHanded {} Tryd.checked os 4 .any (fun w args => (Rows.pricePlaceSpec.pre enc Tryd.prog Tryd.f4 [] false w args ∧ laidMetH Tryd.prog Rows.pricePlaceRow.laid w) ∧ sizedMet enc Tryd.prog Tryd.f4 (OpenSpec.ofChange Rows.pricePlaceSpec) false w args)
  (Rows.pricePlaceSpec.post enc Tryd.prog Tryd.f4 false true false false) := by
 refine returnsInHanded_of_change_and (C := Tryd.checked) (X := fun w _ => laidMetH Tryd.prog Rows.pricePlaceRow.laid w) (fun _ _ _ hh h => h.of_heap hh) own started (by kernel_rfl) Tryd.func4
  (ChangeSpec.witness_shaped (enc := enc) (C := Tryd.checked) (os := os) (X := fun w _ => laidMetH Tryd.prog Rows.pricePlaceRow.laid w) false (World.doorLaid Tryd.prog 400 os) #[.agg #[.slice none 0 0, .int .u8 0, .int .u8 0, .int .i64 0, .int .u8 0], .slice none 0 0, .int .u8 0] 8 rfl (World.shaped_of_RefB (by kernel_rfl) (by kernel_rfl)) (by kernel_rfl) (by kernel_rfl) (by kernel_rfl) (door_met os _)) ?_
 intro W base args ds gs before hval0 hW _ _ hL _
 have hval : ∀ (j : Nat) t v, Tryd.f4.params[j]? = some t → args[j]? = some v → Value.okWide Tryd.prog W .any base t v := hval0
 have hW' := hW
 obtain ⟨p, q, hA0, hV, rfl, hfz, hnd⟩ := hW
 have hA : DataW.TrodAll enc Tryd.prog W 0 (fun _ => true) true Tryd.f4.params.toList args.toList ds p := hA0
 rw [Tryd.params4] at hA hval
 obtain ⟨v0, vs0, d0, ds0, p0, q0, hargs, rfl, rfl, h0, r0⟩ := trodAll_cons hA
 obtain ⟨v1, vs1, d1, ds1, p1, q1, rfl, rfl, rfl, h1, r1⟩ := trodAll_cons r0
 obtain ⟨v2, vs2, d2, ds2, p2, q2, rfl, rfl, rfl, h2, r2⟩ := trodAll_cons r1
 obtain ⟨rfl, rfl, rfl⟩ := trodAll_nil r2
 obtain rfl : args = #[v0, v1, v2] := by cases args; simp_all
 obtain ⟨rfl, rfl⟩ := trodVars_none hV
 obtain ⟨xb, Nb, cb, bs, a, b, c, f, rfl, hbs, hby, ha, hb, hff⟩ := openDraft14 (hval 0 _ _ rfl rfl) h0
 obtain ⟨xp, Np, cp, ps, rfl, hps, hpy⟩ := openBytes14 (hval 1 _ _ rfl rfl) h1
 obtain ⟨x, rfl, rfl, rfl, wx⟩ := open_int Tryd.underlying5 (hval 2 5 v2 rfl rfl) h2
 exact (place_walk xb Nb cb bs a b c f xp Np cp ps x (by have := u8_ends wx; omega) W (sg_of_laid hL) hbs hby ha hb hff hps hpy).mono fun e W' ⟨he, hb⟩ => ⟨_, he, Close.law_post laidOut (by kernel_rfl) rfl (by kernel_rfl) Tryd.underlying4 hW' rfl hb⟩
theorem over : Rows.PricePlaceSaid :=
 OpenClaim.holds_of_wide 4 Tryd.f4 rfl rfl rfl rfl rfl rfl rfl ⟨rfl, rfl, rfl, rfl, rfl⟩ rfl rfl rfl rfl rfl (by kernel_rfl) Tryd.func4 (by kernel_rfl)
  (of_decide_eq_true (by kernel_rfl)) (by unfold Func.isWrapper; first | (rw [if_pos (by decide +kernel)]; kernel_rfl) | (rw [if_neg (by decide +kernel)]; exact ⟨rfl, rfl⟩))
  (fun os started H enc _ => lifted os started H enc)
theorem proved : Rows.PricePlaceCardSaid :=
 Claim7.holds_tied_plain_at .later [] [.data, .data, .data] true (true, "1ca01e46e6a1680efaf2cd5a721b3d3d0c579c25cc0efc216c20249d2f05a4d0") false
  over (fun _ h => by cases h) (by kernel_rfl) (fun _ h => by cases h) pricePlace_row_tie rfl ⟨rfl, rfl⟩ (by kernel_rfl) rfl
  (fun f fn hf hfn => by
   obtain rfl : f = 4 := Option.some.inj ((show Tryd.prog.funcNamed "consign/consignlaw14.PricePlace" = some 4 by kernel_rfl).symm.trans hf) |>.symm
   obtain rfl : fn = Tryd.f4 := (Option.some.inj (Tryd.func4.symm.trans hfn)).symm
   exact ⟨by kernel_rfl, fun j t ht => by
    rw [Tryd.params4] at ht
    have hm : t ∈ [26, 22, 5] := by simpa using Array.mem_of_getElem? ht
    have hall : ([26, 22, 5].all fun u => !Tryd.prog.wantsStandIn u) = true := by kernel_rfl
    exact (show Tryd.prog.wantsStandIn t = false by simpa using List.all_eq_true.1 hall t hm)⟩)
  (by kernel_rfl)
#print axioms proved
end Go.Proofs.YteclpblfleakhaaDoor.pricePlace

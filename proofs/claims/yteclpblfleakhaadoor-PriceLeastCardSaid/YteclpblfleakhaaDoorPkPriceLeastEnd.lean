import Derived.Test.YteclpblfleakhaaDoorPkClose
import Derived.Test.YteclpblfleakhaaDoorPkPriceMoreMath

namespace Go.Proofs.YteclpblfleakhaaDoor.Price
open Go.RowKit Go.Sort Go.Proofs.YteclpblfleakhaaDoor.Mem Go.Proofs.YteclpblfleakhaaDoor.Order Go.Proofs.YteclpblfleakhaaDoor.Route Go.Proofs.YteclpblfleakhaaDoor.When Go.Proofs.YteclpblfleakhaaDoor.Load Go.Proofs.YteclpblfleakhaaDoor.Feas Go.Proofs.YteclpblfleakhaaDoor.Ins Go.Proofs.YteclpblfleakhaaDoor.Cheap Go.Proofs.YteclpblfleakhaaDoor.Plan
set_option linter.unusedVariables false
def metK (S : St) (r n : Int) (k : Nat) : Bool := (waysA S r k).any fun y => decide (y.2.n = n)
def metP (S : St) (r n : Int) (k : Nat) (v : Vh) (l pre : List (Int × Int)) : Bool := (inK S r k v l pre).any fun y => decide (y.2.n = n)
theorem metP_nil (S : St) (r n : Int) (k : Nat) (v : Vh) (l : List (Int × Int)) : metP S r n k v l [] = metK S r n k := by unfold metP metK; rw [inK_nil]
theorem metP_all {S : St} {r n : Int} {k : Nat} {v : Vh} {l : List (Int × Int)} (hv : S.vs[k]? = some v) (hl : S.rows[k]? = some l) : metP S r n k v l (pairsL l.length) = metK S r n (k + 1) := by unfold metP metK; rw [inK_all hv hl]
theorem metP_no {S : St} {r n : Int} {k : Nat} {v : Vh} {l pre : List (Int × Int)} {i j : Int} (h : riseE v l S.t r i j ≠ 0) : metP S r n k v l (pre ++ [(i, j)]) = metP S r n k v l pre := by unfold metP; rw [inK_no h]
theorem metP_yes {S : St} {r n : Int} {k : Nat} {v : Vh} {l pre : List (Int × Int)} {i j : Int} (h : riseE v l S.t r i j = 0) : metP S r n k v l (pre ++ [(i, j)]) = (metP S r n k v l pre || decide (riseV v l S.t r i j = n)) := by unfold metP; rw [inK_yes h]; simp
theorem met_end {S : St} (h : Ok S) {r : Int} (hc : clearS S r = true) (hn : ∀ l ∈ S.rows, Nums l) : metK S r (bruteN S r) S.vs.length = decide (priceE S r = 0) := by
 have hw : waysS S r = waysA S r S.vs.length := ways_yes (ok_may h) hc
 unfold metK
 rw [← hw]
 by_cases he : priceE S r = 0
 · rw [decide_eq_true he, List.any_eq_true]
   have hb := (not_congr (brute_iff h (r := r))).2 (by simpa using he)
   cases hl : leastQ (waysS S r) with
   | none => exact absurd (brute_no hl) hb
   | some y => exact ⟨y, leastQ_mem hl, by simp [brute_yes hl]⟩
 · rw [decide_eq_false he]
   have hl := (place_no h he).1
   cases hw2 : waysS S r with
   | nil => rfl
   | cons y ys => rw [hw2] at hl; cases hl
theorem tot_bd {S : St} (h : Ok S) : -4194304 ≤ totS S ∧ totS S ≤ 12000000 := by
 have h1 := totK_bd h S.vs.length (Nat.le_refl _)
 rw [totK_all h rfl] at h1
 have := h.cnt
 omega
theorem price_clear {S : St} {r : Int} (h1 : inT S.t r = true) (h2 : whereV S.rows r < 0) : clearS S r = true := by unfold clearS; rw [h1]; simp [h2]
set_option maxRecDepth 100000 in
set_option maxHeartbeats 16000000 in
theorem least_walk (xb : Option Addr) (Nb cb : Nat) (bs : List Int) (a b c f : Int) (xp : Option Addr) (Np cp : Nat) (ps : List Int) (x : Int) (hx : 0 ≤ x ∧ x < 256) (w : World) (hsg : Sg3 w) (hrow : RowB w.heap.size w (.slice xb Nb cb) 1 (bs.map byV)) (hby : ∀ x ∈ bs, 0 ≤ x ∧ x < 256) (ha : 0 ≤ a ∧ a < 256) (hb : 0 ≤ b ∧ b < 256) (hf : 0 ≤ f ∧ f < 256) (hprow : RowB w.heap.size w (.slice xp Np cp) 1 (ps.map byV)) (hpby : ∀ x ∈ ps, 0 ≤ x ∧ x < 256) :
 Calls Tryd.prog 3 #[.agg #[.slice xb Nb cb, .int .u8 a, .int .u8 b, .int .i64 c, .int .u8 f], .slice xp Np cp, .int .u8 x] w fun e w' => e = .returned (.bool true) ∧ Below w.heap.size w w' := by
 obtain ⟨q, hq⟩ : ∃ q, w.heap.size = q := ⟨_, rfl⟩
 obtain ⟨w0, hw0⟩ : ∃ w0, w.alloc (.cells #[.slice xb Nb cb, .int .u8 a, .int .u8 b, .int .i64 c, .int .u8 f] 26) = w0 := ⟨_, rfl⟩
 have hs0 : w0.heap.size = q + 1 := by rw [← hw0]; simp [hq]
 have hb0 : Below q w w0 := by rw [← hw0]; exact (Below.refl _ _).alloc (by omega) _
 have hd0 : At w0 q 26 #[.slice xb Nb cb, .int .u8 a, .int .u8 b, .int .i64 c, .int .u8 f] := by rw [← hw0]; exact At.new_ _ _ _ hq.symm
 have hsg0 := Lib.hid (hsg.on (by rw [hq]; exact hb0))
 rw [hq] at hrow hprow ⊢
 have hw0' := Lib.hid hw0
 have hq' := Lib.hid hq
 have hmem := Lib.hid (And.intro hrow (And.intro hby (And.intro ha (And.intro hb hf))))
 have hpm := Lib.hid (And.intro hprow hpby)
 have hWk := works_any w0 hsg0.out
 clear hw0 hq hsg hrow hby ha hb hf hprow hpby
 go_enter Tryd.func3, Tryd.ntmps3
 go_upto_region 1 with fail
 try simp only [hq'.out]
 try rw [hw0'.out]
 go_wp2_with fail
 refine hWk.mono ?_
 clear hWk
 rintro e w1 ⟨rfl, hb1⟩
 have hd1 := hd0.keep hb1 hd0.inside
 have hB1 := Lib.hid (hb0.trans (hb1.mono (by omega : q ≤ w0.heap.size)))
 have hsg1 := Lib.hid (hsg0.out.on hb1)
 have hs1 : q + 1 ≤ w1.heap.size := by have := hb1.size; omega
 have hPt := parts14_any xb Nb cb bs a b c f w1 ((RowB.keep hmem.out.1 hB1.out (Nat.le_refl _)).more (by omega)) hmem.out.2.1 hmem.out.2.2.1 hmem.out.2.2.2.1 hmem.out.2.2.2.2
 have c0 := hd1.cell 0
 have c1 := hd1.cell 1
 have c2 := hd1.cell 2
 have c3 := hd1.cell 3
 have c4 := hd1.cell 4
 simp at c0 c1 c2 c3 c4
 clear hd0 hb0 hb1 hsg0 hmem hs0
 go_wp2_with fail
 refine hPt.mono ?_
 clear hPt c0 c1 c2 c3 c4 hd1
 rintro e w2 ⟨⟨gf, gr, ut, u0, u1, v0, v1, l0, l1, t, rfl, hPa⟩, hb2⟩
 have hpt := own_plain3 hPa.ot
 obtain ⟨xt, ct, rfl, -, -⟩ := owns_slice hPa.ot
 have hPa' := Lib.hid hPa
 have hsg2 := Lib.hid (hsg1.out.on hb2)
 have hB2 := Lib.hid (hB1.out.trans (hb2.mono (by omega)))
 have hs2 : q ≤ w2.heap.size := by have := hb2.size; omega
 have hm2 := Lib.hid hPa.mem
 have htl := hPa.tl
 rw [htl] at hpt hm2 ⊢
 have hn0 := hPa.new0
 have hMd := made_any xp Np cp ps w2 hsg2.out hm2.out.1 hm2.out.2.2 (.inr ⟨_, _, _, rfl⟩) hpt hn0.1 hn0.2 (by simp) (by omega) ((RowB.keep hpm.out.1 hB2.out (Nat.le_refl _)).more hs2) hpm.out.2
 clear hPa hb2 hB1 hsg1 hpm hpt hn0
 go_wp2_with fail
 refine hMd.mono ?_
 clear hMd
 rintro e w3 ⟨p, rfl, S, hvs0, ht0, hO⟩
 have hvt := Lib.hid (And.intro hvs0 ht0)
 have hP3 := Lib.hid hO
 have hB3 := Lib.hid (hB2.out.trans (hO.b.mono hs2))
 have hs3 : q ≤ w3.heap.size := Nat.le_trans hs2 hO.sz
 have hV3 : Hid (Vhs w3.heap.size w3 (.slice (some ⟨gf, 0, none⟩) 2 2) S.vs) := Lib.hid (by rw [hvs0]; exact hm2.out.1.on hO.b)
 have hT3 : Hid (Rqs w3.heap.size w3 (.slice xt 8 ct) S.t) := Lib.hid (by rw [ht0]; exact Rqs.on hm2.out.2.2 hO.b)
 have hnv : Hid (S.vs.length = 2) := Lib.hid (by rw [hvs0]; rfl)
 have hnt : Hid (S.t.length = 8) := Lib.hid (by rw [ht0]; exact htl)
 clear hO hvs0 ht0 htl
 obtain ⟨r, hr⟩ : ∃ r, x % 8 = r := ⟨_, rfl⟩
 obtain ⟨hx0, hx1⟩ := hx
 have hrb : 0 ≤ r ∧ r < 8 := by omega
 have hrI : Hid (I64 r) := Lib.hid ⟨by omega, by omega⟩
 have hinT : Hid (inT S.t r = true) := Lib.hid (inT_iff.2 (by rw [hnt.out]; omega))
 have hok := Lib.hid hP3.out.ok
 have hnum : Hid (∀ l ∈ S.rows, Nums l) := Lib.hid (fun l hl => ok_nums hok.out hl)
 obtain ⟨n, hn⟩ : ∃ n, bruteN S r = n := ⟨_, rfl⟩
 have hn' := Lib.hid hn
 have hnb := brute_bd hok.out.tl hnum.out r
 rw [hn] at hnb
 obtain ⟨D, G, hA, hG0⟩ := hP3.out.ex
 have hC := Bid_any r w3 hA hok.out hP3.out.sg.sg
 rw [hn] at hC
 clear hA hG0 hn
 go_wp2_with fail
 refine hC.mono ?_
 clear hC
 rintro e w4 ⟨rfl, hb4⟩
 have hP4 := Lib.hid (hP3.out.on hb4)
 have hV4 := Lib.hid (hV3.out.on hb4)
 have hT4 := Lib.hid (Rqs.on hT3.out hb4)
 clear hb4 hP3 hV3 hT3
 obtain ⟨D, G, hA, hG0⟩ := hP4.out.ex
 have hC := Has_any r w4 hA hok.out hrI.out
 obtain ⟨V, hV⟩ : ∃ V, whereV S.rows r = V := ⟨_, rfl⟩
 rw [hV] at hC
 have hVV := Lib.hid hV
 clear hA hG0 hV
 by_cases hV0 : 0 ≤ V
 · rw [show decide (0 ≤ V) = true by simp [hV0]] at hC
   have he := Lib.hid (priceE_twice (S := S) (r := r) hinT.out (by rw [hVV.out]; exact hV0))
   have hbn : n = 4294967296 := by rw [← hn'.out]; exact (brute_iff hok.out).2 (by rw [he.out]; decide)
   subst hbn
   go_wp2_with fail
   refine hC.mono ?_
   clear hC
   rintro e w5 ⟨rfl, hb5⟩
   have hB5 := Lib.hid (hB2.out.trans ((hP4.out.on hb5).b.mono hs2))
   clear hb5
   go_wp2
   go_ret
   exact ⟨rfl, hB5.out⟩
 rw [show decide (0 ≤ V) = false by simp; omega] at hC
 have hcl : Hid (clearS S r = true) := Lib.hid (price_clear hinT.out (by rw [hVV.out]; omega))
 go_wp2_with fail
 refine hC.mono ?_
 clear hC
 rintro e w5 ⟨rfl, hb5⟩
 have hP5 := Lib.hid (hP4.out.on hb5)
 have hV5 := Lib.hid (hV4.out.on hb5)
 have hT5 := Lib.hid (Rqs.on hT4.out hb5)
 clear hb5 hP4 hV4 hT4
 obtain ⟨D, G, hA, hG0⟩ := hP5.out.ex
 have hC := Routes_any w5 hA hok.out
 clear hA hG0
 go_wp2_with fail
 refine hC.mono ?_
 clear hC
 rintro e w6 ⟨⟨u6, rfl, us6, hu6⟩, hb6⟩
 have hrl : S.rows.length = 2 := by rw [hok.out.len, hnv.out]
 have hP6 := Lib.hid (hP5.out.on hb6)
 have hV6 := Lib.hid (hV5.out.on hb6)
 have hT6 := Lib.hid (Rqs.on hT5.out hb6)
 have hR6 := Lib.hid hu6.rws
 obtain ⟨x6, c6, rfl, -, -⟩ := owns_slice hu6.1
 rw [hrl] at hR6 ⊢
 have hB6 := Lib.hid (hB2.out.trans (hP6.out.b.mono hs2))
 have hs6 : q ≤ w6.heap.size := Nat.le_trans hs2 hP6.out.sz
 have hrl' := Lib.hid hrl
 clear hu6 hb6 hP5 hV5 hT5 hrl hB3 hs3
 obtain ⟨hn0, hn1⟩ := hnb
 obtain ⟨xf, hxf⟩ : ∃ xf : Option Addr, (some ⟨gf, 0, none⟩ : Option Addr) = xf := ⟨_, rfl⟩
 rw [hxf] at hV6 ⊢
 clear hxf
 go_wp2
 go_loopw [15, 16] (fun a i wr => ∃ k : Nat, k ≤ 2 ∧ i = .int .i64 k ∧ a = .bool (metK S r n k) ∧ Hid (Below w6.heap.size w6 wr))
  (fun _ i _ => 2 - (intOf i).toNat)
 case atStart => exact ⟨0, by omega, rfl, rfl, Lib.hid (Below.refl _ _)⟩
 case round =>
  obtain ⟨wi, hwi⟩ : ∃ wi, wi = wr := ⟨_, rfl⟩
  subst hwi
  obtain ⟨k, hk, rfl, rfl, hbw⟩ := hrel
  obtain ⟨b1, hb1⟩ : ∃ b1, metK S r n k = b1 := ⟨_, rfl⟩
  have hb1' := Lib.hid hb1
  rw [hb1]
  clear hb1
  by_cases hlt : k < 2
  case neg =>
   obtain rfl : k = 2 := by omega
   have hP7 := Lib.hid (hP6.out.on hbw.out)
   obtain ⟨D, G, hA, hG0⟩ := hP7.out.ex
   have hA7 := Lib.hid hA
   have hG7 := Lib.hid hG0
   have hC := Total_any wi hA hok.out
   have htb := tot_bd hok.out
   obtain ⟨T, hT⟩ : ∃ T, totS S = T := ⟨_, rfl⟩
   rw [hT] at hC htb
   have hTT := Lib.hid hT
   clear hA hG0 hbw
   go_wp2_with fail
   refine hC.mono ?_
   clear hC
   rintro e w7 ⟨rfl, hb7⟩
   have hA8 := Lib.hid (hA7.out.on hb7)
   have hP8 := Lib.hid (hP7.out.on hb7)
   clear hb7 hA7 hP7
   have hC := Put_any r w7 hA8.out hok.out hP8.out.sg.sg
   have hok6 := Lib.hid (put_ok hok.out r)
   have htb2 := tot_bd hok6.out
   obtain ⟨htp, hp0⟩ := put_tot hok.out r
   have hme := Lib.hid (met_end hok.out hcl.out hnum.out)
   have hbp := Lib.hid (brute_price hok.out r)
   have hpn := Lib.hid (fun h => putS_no (S := S) (r := r) h)
   have hwp := Lib.hid (fun h => where_put hok.out (r := r) h)
   have hbi := Lib.hid (brute_iff hok.out (r := r))
   rw [hn'.out, hnv.out, hb1'.out] at hme
   rw [hn'.out] at hbp hbi
   obtain ⟨E, hE⟩ : ∃ E, priceE S r = E := ⟨_, rfl⟩
   obtain ⟨N, hN⟩ : ∃ N, priceN S r = N := ⟨_, rfl⟩
   rw [hE, hN] at hC
   rw [hN] at htp hp0
   rw [hT] at htp
   rw [htp] at htb2
   rw [hE] at hme hbp hpn hwp hbi
   rw [hN] at hbp
   have htp' := Lib.hid htp
   clear hE hN hT htp
   go_wp2_with fail
   refine hC.mono ?_
   clear hC
   rintro e w8 ⟨rfl, hp8, hc8⟩
   have hP9 := Lib.hid (hP8.out.step hG7.out hp8 hc8 hok6.out)
   obtain ⟨D9, G9, hA, hG9⟩ := hP9.out.ex
   have hC := Total_any w8 hA hok6.out
   rw [htp'.out] at hC
   have hB9 := Lib.hid (hB2.out.trans (hP9.out.b.mono hs2))
   have hs9 : q ≤ w8.heap.size := Nat.le_trans hs2 hP9.out.sz
   clear hp8 hc8 hA hG9 hA8 hP8 hG7
   by_cases hE0 : E = 0
   case neg =>
    obtain rfl : n = 4294967296 := hbi.out.2 hE0
    obtain rfl : b1 = false := by rw [hme.out]; simp [hE0]
    have hSS := hpn.out hE0
    obtain rfl : N = 0 := by
     have h1 := htp'.out
     rw [hSS] at h1
     have h2 := hTT.out
     omega
    have hE1 : (E != 0) = true := by simpa using hE0
    go_wp2_with fail
    refine hC.mono ?_
    clear hC
    rintro e w9 ⟨rfl, hb9⟩
    have hPa := Lib.hid (hP9.out.on hb9)
    obtain ⟨Da, Ga, hA, hGa⟩ := hPa.out.ex
    have hC := Has_any r w9 hA hok6.out hrI.out
    rw [hSS, hVV.out, show decide (0 ≤ V) = false by simp; omega] at hC
    have hBa := Lib.hid (hB9.out.trans (hb9.mono hs9))
    have hsa : q ≤ w9.heap.size := Nat.le_trans hs9 hb9.size
    clear hb9 hA hGa hP9 hPa
    go_wp2_with fail
    refine hC.mono ?_
    clear hC
    rintro e wa ⟨rfl, hba⟩
    have hBb := Lib.hid (hBa.out.trans (hba.mono hsa))
    clear hba
    go_wp2
    go_ret
    exact ⟨rfl, hBb.out⟩
   subst hE0
   have hw := hwp.out rfl
   obtain rfl : b1 = true := by rw [hme.out]; simp
   have hnN := hbp.out
   rw [if_pos rfl] at hnN
   subst hnN
   have hn4 : ¬ (n = 4294967296) := fun h => (hbi.out.1 h) rfl
   go_wp2_with fail
   refine hC.mono ?_
   clear hC
   rintro e w9 ⟨rfl, hb9⟩
   have hPa := Lib.hid (hP9.out.on hb9)
   obtain ⟨Da, Ga, hA, hGa⟩ := hPa.out.ex
   have hC := Has_any r w9 hA hok6.out hrI.out
   rw [show decide (0 ≤ whereV (putS S r).rows r) = true by simp [hw]] at hC
   have hBa := Lib.hid (hB9.out.trans (hb9.mono hs9))
   have hsa : q ≤ w9.heap.size := Nat.le_trans hs9 hb9.size
   clear hb9 hA hGa hP9 hPa
   go_wp2_with fail
   refine hC.mono ?_
   clear hC
   rintro e wa ⟨rfl, hba⟩
   have hBb := Lib.hid (hBa.out.trans (hba.mono hsa))
   clear hba
   go_wp2
   go_ret
   exact ⟨rfl, hBb.out⟩
  obtain ⟨v, hv⟩ : ∃ v, S.vs[k]? = some v := ⟨S.vs[k]'(by rw [hnv.out]; exact hlt), List.getElem?_eq_getElem _⟩
  obtain ⟨l, hl⟩ : ∃ l, S.rows[k]? = some l := ⟨S.rows[k]'(by rw [hrl'.out]; exact hlt), List.getElem?_eq_getElem _⟩
  obtain ⟨hd0, he0, -, hnum0⟩ := hok.out.dr k v l hv hl
  obtain ⟨gv, ov, rfl, hgv0, z0, z1, z2, z3, z4⟩ := Vhs.at hV6.out hv
  obtain ⟨gr, orr, ur, rfl, hgr0, hru0, hrow0⟩ := Rws.at hR6.out hl
  obtain ⟨xl, Nl, cl, rfl, hNl0, hl0, hlc1, hlc2⟩ := hrow0.opened
  have hq6 : Hid (∀ W, Below w6.heap.size w6 W → gv < W.heap.size ∧ (W.cell? ⟨gv, ov + k * 5, none⟩ = some (.int .i64 v.hx) ∧ W.cell? ⟨gv, ov + k * 5 + 1, none⟩ = some (.int .i64 v.hy) ∧ W.cell? ⟨gv, ov + k * 5 + 2, none⟩ = some (.int .i64 v.cp) ∧ W.cell? ⟨gv, ov + k * 5 + 3, none⟩ = some (.int .i64 v.st) ∧ W.cell? ⟨gv, ov + k * 5 + 4, none⟩ = some (.int .i64 v.en))) := Lib.hid (fun W hW =>
   ⟨Nat.lt_of_lt_of_le hgv0 hW.size, (hW.cell (p := ⟨gv, ov + k * 5, none⟩) hgv0).trans z0, (hW.cell (p := ⟨gv, ov + k * 5 + 1, none⟩) hgv0).trans z1, (hW.cell (p := ⟨gv, ov + k * 5 + 2, none⟩) hgv0).trans z2, (hW.cell (p := ⟨gv, ov + k * 5 + 3, none⟩) hgv0).trans z3, (hW.cell (p := ⟨gv, ov + k * 5 + 4, none⟩) hgv0).trans z4⟩)
  have hr6 : Hid (∀ W, Below w6.heap.size w6 W → gr < W.heap.size ∧ W.cell? ⟨gr, orr + k, none⟩ = some (.slice xl Nl cl)) := Lib.hid (fun W hW => ⟨Nat.lt_of_lt_of_le hgr0 hW.size, (hW.cell (p := ⟨gr, orr + k, none⟩) hgr0).trans hru0⟩)
  have hrow6 : Hid (Row w6.heap.size w6 (.slice xl Nl cl) l) := Lib.hid hrow0
  have hrow := hrow0.on hbw.out
  obtain ⟨hgv, q0, q1, q2, q3, q4⟩ := hq6.out wi hbw.out
  obtain ⟨hgr, hru⟩ := hr6.out wi hbw.out
  clear z0 z1 z2 z3 z4 hru0 hrow0 hgv0 hgr0
  unfold maxLen at hlc2
  have hl16 : Nl ≤ 16 := by rw [← hNl0.out]; exact hd0.hn
  have hnl := Lib.hid hnum0
  have hd := Lib.hid hd0
  have he := Lib.hid he0
  have hall := Lib.hid (metP_all (r := r) (n := n) hv hl)
  have hle : Hid (∀ a b, (a, b) ∈ pairsL l.length → riseE v l S.t r a b = 0 → n ≤ riseV v l S.t r a b) := Lib.hid (fun a b hab h0 => by rw [← hn'.out]; exact pairs_le hok.out hcl.out hv hl hab h0)
  have hNl := Lib.hid hNl0.out
  have hkF : (k : Int) < (2 : Int) := by omega
  have hkN := Lib.hid hlt
  have hsz := hbw.out.size
  have hrow' := Lib.hid hrow
  have hTw : Hid (Rqs wi.heap.size wi (.slice xt 8 ct) S.t) := Lib.hid (Rqs.on hT6.out hbw.out)
  obtain ⟨H, hH⟩ : ∃ H, homeT v l S.t = H := ⟨_, rfl⟩
  have hHb : 0 ≤ H ∧ H ≤ 3000000 := by rw [← hH]; exact homeT_bd v l S.t
  have hH' := Lib.hid hH
  clear hv hl hrow hH hd0 he0 hNl0 hnum0
  go_upto_region 18 with fail
  refine Sched.wp_region_sched 16 (fun W W' => Below W.heap.size W W') (VK [.val (.slice (some ⟨gv, ov, none⟩) 2 2), .val (.int .i64 k), .val (.pointer (some ⟨gv, ov + k * 5, none⟩)), .val (.agg #[.int .i64 v.hx, .int .i64 v.hy, .int .i64 v.cp, .int .i64 v.st, .int .i64 v.en]), .val (.slice (some ⟨gr, orr, none⟩) 2 c6), .val (.int .i64 k), .val (.pointer (some ⟨gr, orr + k, none⟩)), .val (.slice xl Nl cl), .val (.slice xt 8 ct), .of (fun x _ => ∃ y M d, x = .tuple #[.slice y M d, .int .i64 H, .int .i64 0]) (fun h _ => h), .of (fun x _ => ∃ y M d, x = .tuple #[.slice y M d, .int .i64 H, .int .i64 0]) (fun h _ => h), .of (fun _ _ => True) (fun _ _ => trivial), .val (.int .i64 H), .val (.int .i64 0), .of (fun _ _ => True) (fun _ _ => trivial), .val (.int .i64 H)]) (fun _ _ _ => True) (by kernel_rfl) (by kernel_rfl) (by kernel_rfl) (fun h1 h2 => belowTr h1 h2) (fun h1 h2 => VK.keep h1 h2) (Below.refl _ _).drew (fun _ => trivial) (Sched.StepsA.steps (by kernel_rfl) ?hSA) ?hQA
  case hSA =>
   simp only [List.take_succ_cons, List.take_zero]
   refine ⟨?_, ?_, ?_, ?_, ?_, ?_, ?_, ?_, ?_, ?_, ?_, ?_, ?_, ?_, ?_, ?_, trivial⟩
   · intro ys done W aa hE hn hF hD hZ hG hO
     replace hE : Below wi.heap.size wi W := hE
     have o7 := hO 7 (by kernel_rfl)
     replace o7 : aa.tmps[7]? = some (.slice (some ⟨gv, ov, none⟩) 2 2) := o7
     go_wp2_with fail
     first | exact ⟨_, rfl, Below.refl _ _, VK.val rfl rfl, trivial⟩ | exact ⟨_, rfl, Below.refl _ _, VK.val rfl rfl⟩
   · intro ys done W aa hE hn hF hD hZ hG hO
     replace hE : Below wi.heap.size wi W := hE
     have o16 := hO 16 (by kernel_rfl)
     replace o16 : aa.tmps[16]? = some (.int .i64 k) := o16
     go_wp2_with fail
     first | exact ⟨_, rfl, Below.refl _ _, VK.val rfl rfl, trivial⟩ | exact ⟨_, rfl, Below.refl _ _, VK.val rfl rfl⟩
   · intro ys done W aa hE hn hF hD hZ hG hO
     replace hE : Below wi.heap.size wi W := hE
     have v0 := (hF 0 (by decide) (hD 0 (by kernel_rfl))).eq rfl
     have g0 := hG 0 72 rfl (Nat.le_of_ble_eq_true rfl)
     rw [v0] at g0
     have v1 := (hF 1 (by decide) (hD 1 (by kernel_rfl))).eq rfl
     have g1 := hG 1 73 rfl (Nat.le_of_ble_eq_true rfl)
     rw [v1] at g1
     go_wp2_with fail
     first | exact ⟨_, rfl, Below.refl _ _, VK.val rfl rfl, trivial⟩ | exact ⟨_, rfl, Below.refl _ _, VK.val rfl rfl⟩
   · intro ys done W aa hE hn hF hD hZ hG hO
     replace hE : Below wi.heap.size wi W := hE
     have v2 := (hF 2 (by decide) (hD 2 (by kernel_rfl))).eq rfl
     have g2 := hG 2 74 rfl (Nat.le_of_ble_eq_true rfl)
     rw [v2] at g2
     have z0 := (hE.cell (p := ⟨gv, ov + k * 5, none⟩) hgv).trans q0
     have z1 := (hE.cell (p := ⟨gv, ov + k * 5 + 1, none⟩) hgv).trans q1
     have z2 := (hE.cell (p := ⟨gv, ov + k * 5 + 2, none⟩) hgv).trans q2
     have z3 := (hE.cell (p := ⟨gv, ov + k * 5 + 3, none⟩) hgv).trans q3
     have z4 := (hE.cell (p := ⟨gv, ov + k * 5 + 4, none⟩) hgv).trans q4
     go_wp2_with fail
     first | exact ⟨_, rfl, Below.refl _ _, VK.val rfl rfl, trivial⟩ | exact ⟨_, rfl, Below.refl _ _, VK.val rfl rfl⟩
   · intro ys done W aa hE hn hF hD hZ hG hO
     replace hE : Below wi.heap.size wi W := hE
     have o14 := hO 14 (by kernel_rfl)
     replace o14 : aa.tmps[14]? = some (.slice (some ⟨gr, orr, none⟩) 2 c6) := o14
     go_wp2_with fail
     first | exact ⟨_, rfl, Below.refl _ _, VK.val rfl rfl, trivial⟩ | exact ⟨_, rfl, Below.refl _ _, VK.val rfl rfl⟩
   · intro ys done W aa hE hn hF hD hZ hG hO
     replace hE : Below wi.heap.size wi W := hE
     have o16 := hO 16 (by kernel_rfl)
     replace o16 : aa.tmps[16]? = some (.int .i64 k) := o16
     go_wp2_with fail
     first | exact ⟨_, rfl, Below.refl _ _, VK.val rfl rfl, trivial⟩ | exact ⟨_, rfl, Below.refl _ _, VK.val rfl rfl⟩
   · intro ys done W aa hE hn hF hD hZ hG hO
     replace hE : Below wi.heap.size wi W := hE
     have v4 := (hF 4 (by decide) (hD 4 (by kernel_rfl))).eq rfl
     have g4 := hG 4 76 rfl (Nat.le_of_ble_eq_true rfl)
     rw [v4] at g4
     have v5 := (hF 5 (by decide) (hD 5 (by kernel_rfl))).eq rfl
     have g5 := hG 5 77 rfl (Nat.le_of_ble_eq_true rfl)
     rw [v5] at g5
     go_wp2_with fail
     first | exact ⟨_, rfl, Below.refl _ _, VK.val rfl rfl, trivial⟩ | exact ⟨_, rfl, Below.refl _ _, VK.val rfl rfl⟩
   · intro ys done W aa hE hn hF hD hZ hG hO
     replace hE : Below wi.heap.size wi W := hE
     have v6 := (hF 6 (by decide) (hD 6 (by kernel_rfl))).eq rfl
     have g6 := hG 6 78 rfl (Nat.le_of_ble_eq_true rfl)
     rw [v6] at g6
     have z0 := (hE.cell (p := ⟨gr, orr + k, none⟩) hgr).trans hru
     go_wp2_with fail
     first | exact ⟨_, rfl, Below.refl _ _, VK.val rfl rfl, trivial⟩ | exact ⟨_, rfl, Below.refl _ _, VK.val rfl rfl⟩
   · intro ys done W aa hE hn hF hD hZ hG hO
     replace hE : Below wi.heap.size wi W := hE
     have o9 := hO 9 (by kernel_rfl)
     replace o9 : aa.tmps[9]? = some (.slice xt 8 ct) := o9
     go_wp2_with fail
     first | exact ⟨_, rfl, Below.refl _ _, VK.val rfl rfl, trivial⟩ | exact ⟨_, rfl, Below.refl _ _, VK.val rfl rfl⟩
   · intro ys done W aa hE hn hF hD hZ hG hO
     replace hE : Below wi.heap.size wi W := hE
     have v3 := (hF 3 (by decide) (hD 3 (by kernel_rfl))).eq rfl
     have g3 := hG 3 75 rfl (Nat.le_of_ble_eq_true rfl)
     rw [v3] at g3
     have v7 := (hF 7 (by decide) (hD 7 (by kernel_rfl))).eq rfl
     have g7 := hG 7 79 rfl (Nat.le_of_ble_eq_true rfl)
     rw [v7] at g7
     have v8 := (hF 8 (by decide) (hD 8 (by kernel_rfl))).eq rfl
     have g8 := hG 8 80 rfl (Nat.le_of_ble_eq_true rfl)
     rw [v8] at g8
     go_wp2_with fail
     refine (Times_any v _ _ l S.t (by rw [hNl.out]; omega) hnl.out W (hrow'.out.on hE) (Rqs.on hTw.out hE)).mono ?_
     rintro e W' ⟨⟨u9, rfl, hu9⟩, hb'⟩
     obtain ⟨y9, M9, d9, rfl, -⟩ := Tms.opened hu9
     rw [hH'.out, he.out]
     replace hb' := Lib.hid hb'
     go_wp2_with fail
     first | exact ⟨_, rfl, hb'.out, VK.of rfl ⟨_, _, _, rfl⟩, trivial⟩ | exact ⟨_, rfl, hb'.out, VK.of rfl ⟨_, _, _, rfl⟩⟩
   · intro ys done W aa hE hn hF hD hZ hG hO
     replace hE : Below wi.heap.size wi W := hE
     have v9 := (hF 9 (by decide) (hD 9 (by kernel_rfl))).get rfl
     have g9 := hG 9 81 rfl (Nat.le_of_ble_eq_true rfl)
     go_wp2_with fail
     first | exact ⟨_, rfl, Below.refl _ _, VK.of rfl v9, trivial⟩ | exact ⟨_, rfl, Below.refl _ _, VK.of rfl v9⟩
   · intro ys done W aa hE hn hF hD hZ hG hO
     replace hE : Below wi.heap.size wi W := hE
     have v10 := (hF 10 (by decide) (hD 10 (by kernel_rfl))).get rfl
     have g10 := hG 10 71 rfl (Nat.le_of_ble_eq_true rfl)
     obtain ⟨y9, M9, d9, e9⟩ := v10
     rw [e9] at g10
     go_wp2_with fail
     first | exact ⟨_, rfl, Below.refl _ _, VK.of rfl trivial, trivial⟩ | exact ⟨_, rfl, Below.refl _ _, VK.of rfl trivial⟩
   · intro ys done W aa hE hn hF hD hZ hG hO
     replace hE : Below wi.heap.size wi W := hE
     have v10 := (hF 10 (by decide) (hD 10 (by kernel_rfl))).get rfl
     have g10 := hG 10 71 rfl (Nat.le_of_ble_eq_true rfl)
     obtain ⟨y9, M9, d9, e9⟩ := v10
     rw [e9] at g10
     go_wp2_with fail
     first | exact ⟨_, rfl, Below.refl _ _, VK.val rfl rfl, trivial⟩ | exact ⟨_, rfl, Below.refl _ _, VK.val rfl rfl⟩
   · intro ys done W aa hE hn hF hD hZ hG hO
     replace hE : Below wi.heap.size wi W := hE
     have v10 := (hF 10 (by decide) (hD 10 (by kernel_rfl))).get rfl
     have g10 := hG 10 71 rfl (Nat.le_of_ble_eq_true rfl)
     obtain ⟨y9, M9, d9, e9⟩ := v10
     rw [e9] at g10
     go_wp2_with fail
     first | exact ⟨_, rfl, Below.refl _ _, VK.val rfl rfl, trivial⟩ | exact ⟨_, rfl, Below.refl _ _, VK.val rfl rfl⟩
   · intro ys done W aa hE hn hF hD hZ hG hO
     replace hE : Below wi.heap.size wi W := hE
     have v11 := (hF 11 (by decide) (hD 11 (by kernel_rfl))).get rfl
     have g11 := hG 11 82 rfl (Nat.le_of_ble_eq_true rfl)
     go_wp2_with fail
     first | exact ⟨_, rfl, Below.refl _ _, VK.of rfl trivial, trivial⟩ | exact ⟨_, rfl, Below.refl _ _, VK.of rfl trivial⟩
   · intro ys done W aa hE hn hF hD hZ hG hO
     replace hE : Below wi.heap.size wi W := hE
     have v12 := (hF 12 (by decide) (hD 12 (by kernel_rfl))).eq rfl
     have g12 := hG 12 83 rfl (Nat.le_of_ble_eq_true rfl)
     rw [v12] at g12
     go_wp2_with fail
     first | exact ⟨_, rfl, Below.refl _ _, VK.val rfl rfl, trivial⟩ | exact ⟨_, rfl, Below.refl _ _, VK.val rfl rfl⟩
  case hQA =>
   intro ys w7 hE hF _
   replace hE : Below wi.heap.size wi w7 := hE
   have v13 := (hF 13 (by decide)).eq rfl
   have v15 := (hF 15 (by decide)).eq rfl
   simp only [List.take_succ_cons, List.take_zero, List.drop_succ_cons, List.drop_zero, Sched.fill, v13, v15]
   clear hF v13 v15 
   go_simp
   have hB7 := Lib.hid (hbw.out.trans (hE.mono hsz))
   have hpairs : Hid (pairsL l.length = fromL Nl 0) := Lib.hid (by rw [hNl.out]; exact pairsL_in hl16)
   obtain ⟨hgr7, hru7⟩ := hr6.out w7 hB7.out
   clear hE hgv q0 q1 q2 q3 q4 hgr hru hrow' hTw hsz hbw
   go_wp2
   go_loopw [15, 20] (fun a c wr => ∃ (pre : List (Int × Int)) (i : Nat), c = .int .i64 i ∧ i ≤ Nl + 1 ∧ Hid (fromL Nl 0 = pre ++ fromL Nl i) ∧ a = .bool (metP S r n k v l pre) ∧ Hid (Below w6.heap.size w6 wr))
    (fun _ c _ => Nl + 1 - (intOf c).toNat)
   case atStart => exact ⟨[], 0, rfl, Nat.zero_le _, Lib.hid rfl, by rw [metP_nil, hb1'.out], hB7⟩
   case round =>
    clear hgr7 hru7 hB7 hb1'
    obtain ⟨wa, hwa⟩ : ∃ wa, wa = wr := ⟨_, rfl⟩
    subst hwa
    obtain ⟨pre, i, rfl, hi1, hx, rfl, hba⟩ := hrel
    obtain ⟨hgra, hra⟩ := hr6.out wa hba.out
    obtain ⟨b2, hb2⟩ : ∃ b2, metP S r n k v l pre = b2 := ⟨_, rfl⟩
    have hb2' := Lib.hid hb2
    rw [hb2]
    clear hb2
    by_cases hli : i ≤ Nl
    · have hx2 : Hid (fromL Nl 0 = pre ++ (rowL Nl i i ++ fromL Nl (i + 1))) := Lib.hid (by rw [hx.out, fromL_cons hli])
      have hliI : (i : Int) ≤ (Nl : Int) := by omega
      have hba' := Lib.hid hba
      clear hx hba
      go_wp2
      go_loopw [15, 21] (fun a c wr => ∃ (pre : List (Int × Int)) (j : Nat), c = .int .i64 j ∧ i ≤ j ∧ j ≤ Nl + 1 ∧ Hid (fromL Nl 0 = pre ++ (rowL Nl i j ++ fromL Nl (i + 1))) ∧ a = .bool (metP S r n k v l pre) ∧ Hid (Below w6.heap.size w6 wr))
       (fun _ c _ => Nl + 1 - (intOf c).toNat)
      case atStart => exact ⟨pre, i, rfl, Nat.le_refl _, by omega, hx2, by rw [hb2'.out], hba'.out⟩
      case round =>
       clear hx2 hba' hra hgra hb2' pre
       obtain ⟨wb, hwb⟩ : ∃ wb, wb = wr := ⟨_, rfl⟩
       subst hwb
       obtain ⟨pre, j, rfl, hij, hj1, hx, rfl, hbb⟩ := hrel
       obtain ⟨hgrb, hrb⟩ := hr6.out wb hbb.out
       obtain ⟨b3, hb3⟩ : ∃ b3, metP S r n k v l pre = b3 := ⟨_, rfl⟩
       have hb3' := Lib.hid hb3
       rw [hb3]
       clear hb3
       by_cases hlj : j ≤ Nl
       · have hx2 : Hid (fromL Nl 0 = (pre ++ [((i : Int), (j : Int))]) ++ (rowL Nl i (j + 1) ++ fromL Nl (i + 1))) := Lib.hid (by rw [hx.out, rowL_cons hlj, List.append_assoc]; rfl)
         have hin : Hid (((i : Int), (j : Int)) ∈ pairsL l.length) := Lib.hid (by rw [hpairs.out, hx2.out]; simp)
         have hljI : (j : Int) ≤ (Nl : Int) := by omega
         have hjN : Hid (j + 1 ≤ Nl + 1) := Lib.hid (by omega)
         have hW := With_any _ l r i j (by rw [hNl.out]; omega) wb (hrow6.out.on hbb.out)
         obtain ⟨bm, hbm⟩ : ∃ b, mayW l r i j = b := ⟨_, rfl⟩
         rw [hbm] at hW
         have hbm' := Lib.hid hbm
         have hsb := hbb.out.size
         clear hx hbm
         go_wp2_with fail
         refine hW.mono ?_
         clear hW
         rintro e w3 ⟨⟨u3, rfl, hu3, -⟩, hb3⟩
         have hB3 := Lib.hid (hbb.out.trans (hb3.mono hsb))
         obtain ⟨xu, Nu, cu, rfl, -⟩ := hu3.opened
         have hu3' := Lib.hid hu3
         clear hb3 hu3 hbb hrb hgrb
         cases bm
         · have hh := Lib.hid (metP_no (S := S) (n := n) (k := k) (pre := pre) (rise_no (v := v) (t := S.t) hbm'.out))
           go_wp2
           go_roundw
           case rel => exact ⟨pre ++ [((i : Int), (j : Int))], j + 1, by go_num, by omega, hjN.out, hx2, by rw [hh.out, hb3'.out], hB3⟩
           case measure => simp [intOf]; omega
         have hmr := Lib.hid (rise_ok hd.out hbm'.out hinT.out)
         have hml := Lib.hid (moreL_length hbm'.out)
         have hmn : Hid (Nums (moreL l r i j)) := Lib.hid (moreL_nums hnl.out hrI.out)
         have hrv := Lib.hid (fun h : riseE v l S.t r i j = 0 => riseV_ok h)
         have hrz := Lib.hid (fun h : riseE v l S.t r i j = 0 => riseE_zero h)
         have hm14 := (mayW_iff.1 hbm'.out).2.2.2.2.1
         have huM := hu3'.out
         rw [withV_more hbm'.out] at huM
         obtain ⟨M, hM⟩ : ∃ M, moreL l r i j = M := ⟨_, rfl⟩
         rw [hM] at hmr hml hmn hrv hrz huM
         have huM' := Lib.hid huM
         have hMl : M.length ≤ 100 := by rw [hml.out]; omega
         have hCk := Check_any v _ _ M S.t (by omega) hmn.out w3 huM (Rqs.on hT6.out hB3.out)
         obtain ⟨hgv3, p0, p1, p2, p3, p4⟩ := hq6.out w3 hB3.out
         have hMl' := Lib.hid hMl
         have hs3 := hB3.out.size
         clear hM huM hm14 hMl hu3'
         go_wp2_with fail
         refine hCk.mono ?_
         clear hCk p0 p1 p2 p3 p4 hgv3
         rintro e w4 ⟨⟨u4, rfl, hu4⟩, hb4⟩
         have hB4 := Lib.hid (hB3.out.trans (hb4.mono hs3))
         have huM4 := Lib.hid (huM'.out.on hb4)
         have hs4 := hB4.out.size
         by_cases hf : (faultV v M S.t).1 = 0
         case neg =>
          obtain ⟨q3, rfl⟩ := check_not hu4 hf
          have hh := Lib.hid (metP_no (S := S) (n := n) (k := k) (pre := pre) (v := v) (l := l) (r := r) (i := i) (j := j) (fun h0 => hf (hmr.out.1 h0)))
          clear hu4 hb4 hB3 huM'
          go_wp2
          go_roundw
          case rel => exact ⟨pre ++ [((i : Int), (j : Int))], j + 1, by go_num, by omega, hjN.out, hx2, by rw [hh.out, hb3'.out], hB4⟩
          case measure => simp [intOf]; omega
         obtain rfl := check_none hu4 hf
         have hz : Hid (riseE v l S.t r i j = 0) := Lib.hid (hmr.out.2 hf)
         have hTi := Times_any v _ _ M S.t (by have := hMl'.out; omega) hmn.out w4 huM4.out (Rqs.on hT6.out hB4.out)
         rw [(hrz.out hz.out).2.2] at hTi
         obtain ⟨J, hJ⟩ : ∃ J, homeT v M S.t = J := ⟨_, rfl⟩
         rw [hJ] at hTi
         have hJb : 0 ≤ J ∧ J ≤ 3000000 := by rw [← hJ]; exact homeT_bd v M S.t
         have hvv : riseV v l S.t r i j = J - H := by rw [hrv.out hz.out, hJ, hH'.out]
         have hnJ : n ≤ J - H := by rw [← hvv]; exact hle.out _ _ hin.out hz.out
         have hyes := Lib.hid (metP_yes (S := S) (n := n) (k := k) (pre := pre) hz.out)
         rw [hvv, hb3'.out] at hyes
         obtain ⟨hgv4, p0, p1, p2, p3, p4⟩ := hq6.out w4 hB4.out
         clear hu4 hb4 hB3 huM' hJ hvv hf
         go_wp2_with fail
         refine hTi.mono ?_
         clear hTi p0 p1 p2 p3 p4 hgv4
         rintro e w8 ⟨⟨u8, rfl, hu8⟩, hb8⟩
         obtain ⟨y8, M8, d8, rfl, -⟩ := Tms.opened hu8
         have hB8 := Lib.hid (hB4.out.trans (hb8.mono hs4))
         clear hb8 hu8 hB4 huM4 hs4
         have hJH : ¬ J < H := by omega
         have hnJ2 : ¬ J - H < n := by omega
         have hwr : IntKind.u64.wrap (J - H) = J - H := IntWalk.u64_in _ (by omega)
         cases b3
         · by_cases hjn : J - H = n
           · rw [decide_eq_true hjn] at hyes
             go_wp2
             go_roundw
             case rel => exact ⟨pre ++ [((i : Int), (j : Int))], j + 1, by go_num, by omega, hjN.out, hx2, by rw [hyes.out]; rfl, hB8⟩
             case measure => simp [intOf]; omega
           · rw [decide_eq_false hjn] at hyes
             go_wp2
             go_roundw
             case rel => exact ⟨pre ++ [((i : Int), (j : Int))], j + 1, by go_num, by omega, hjN.out, hx2, by rw [hyes.out]; simp [hjn], hB8⟩
             case measure => simp [intOf]; omega
         · rw [Bool.true_or] at hyes
           go_wp2
           go_roundw
           case rel => exact ⟨pre ++ [((i : Int), (j : Int))], j + 1, by go_num, by omega, hjN.out, hx2, by rw [hyes.out], hB8⟩
           case measure => simp [intOf]; omega
       · obtain rfl : j = Nl + 1 := by omega
         have hx2 : Hid (fromL Nl 0 = pre ++ fromL Nl (i + 1)) := Lib.hid (by rw [hx.out, rowL_nil (Nat.lt_succ_self _)]; rfl)
         clear hx
         go_wp2
         go_roundw
         case rel => exact ⟨pre, i + 1, by go_num, by omega, hx2, by rw [hb3'.out], hbb⟩
         case measure => simp [intOf]; omega
    · obtain rfl : i = Nl + 1 := by omega
      have hx2 : Hid (pairsL l.length = pre) := Lib.hid (by rw [hpairs.out, hx.out, fromL_nil (Nat.lt_succ_self _), List.append_nil])
      have hend : Hid (metK S r n (k + 1) = b2) := Lib.hid (by rw [← hb2'.out, ← hx2.out]; exact hall.out.symm)
      clear hx
      go_wp2
      go_roundw
      case rel => exact ⟨k + 1, hkN.out, by go_num, by rw [hend.out], hba⟩
      case measure => simp [intOf]; omega
end Go.Proofs.YteclpblfleakhaaDoor.Price
/-
  PriceLeast, the stage's theorem (no vehicle, and no pair of places, has a less rise than what a plan bids; where it bids anything, one has just that, which is what the total rises by when the request is put in; else it can't be put in), returns true: for all drafts of vehicles and requests, what is put in ahead (eight at most), and the request. Its condition: package load's variable signs, package cheap's variable none and package price's variable none are as the program's text lays them when the call begins, which the card ties to that text.
-/
namespace Go.Proofs.YteclpblfleakhaaDoor.priceLeast
open Go.ChangeShapes Go.WideShapes Go.ChangeAt Go.RowKit Go.Sort
open Go.Proofs.YteclpblfleakhaaDoor.Laid Go.Proofs.YteclpblfleakhaaDoor.When Go.Proofs.YteclpblfleakhaaDoor.Plan Go.Proofs.YteclpblfleakhaaDoor.Price
set_option linter.unusedVariables false
set_option maxRecDepth 100000 in
theorem lifted (os : Os) (started : os.Started) (H : Type) (enc : TypeId × Value → H) :
 ReturnsInHanded {} Tryd.checked os 3 .any (fun w args => (Rows.priceLeastSpec.pre enc Tryd.prog Tryd.f3 [] false w args ∧ laidMetH Tryd.prog Rows.priceLeastRow.laid w) ∧ sizedMet enc Tryd.prog Tryd.f3 (OpenSpec.ofChange Rows.priceLeastSpec) false w args)
  (Rows.priceLeastSpec.post enc Tryd.prog Tryd.f3 false true false false) := by
 refine returnsInHanded_of_change_and (C := Tryd.checked) (X := fun w _ => laidMetH Tryd.prog Rows.priceLeastRow.laid w) (fun _ _ _ hh h => h.of_heap hh) own started (by kernel_rfl) Tryd.func3
  (ChangeSpec.witness_shaped (enc := enc) (C := Tryd.checked) (os := os) (X := fun w _ => laidMetH Tryd.prog Rows.priceLeastRow.laid w) false (World.doorLaid Tryd.prog 400 os) #[.agg #[.slice none 0 0, .int .u8 0, .int .u8 0, .int .i64 0, .int .u8 0], .slice none 0 0, .int .u8 0] 8 rfl (World.shaped_of_RefB (by kernel_rfl) (by kernel_rfl)) (by kernel_rfl) (by kernel_rfl) (by kernel_rfl) (door_met os _)) ?_
 intro W base args ds gs before hval0 hW _ _ hL _
 have hval : ∀ (j : Nat) t v, Tryd.f3.params[j]? = some t → args[j]? = some v → Value.okWide Tryd.prog W .any base t v := hval0
 have hW' := hW
 obtain ⟨p, q, hA0, hV, rfl, hfz, hnd⟩ := hW
 have hA : DataW.TrodAll enc Tryd.prog W 0 (fun _ => true) true Tryd.f3.params.toList args.toList ds p := hA0
 rw [Tryd.params3] at hA hval
 obtain ⟨v0, vs0, d0, ds0, p0, q0, hargs, rfl, rfl, h0, r0⟩ := trodAll_cons hA
 obtain ⟨v1, vs1, d1, ds1, p1, q1, rfl, rfl, rfl, h1, r1⟩ := trodAll_cons r0
 obtain ⟨v2, vs2, d2, ds2, p2, q2, rfl, rfl, rfl, h2, r2⟩ := trodAll_cons r1
 obtain ⟨rfl, rfl, rfl⟩ := trodAll_nil r2
 obtain rfl : args = #[v0, v1, v2] := by cases args; simp_all
 obtain ⟨rfl, rfl⟩ := trodVars_none hV
 obtain ⟨xb, Nb, cb, bs, a, b, c, f, rfl, hbs, hby, ha, hb, hff⟩ := openDraft14 (hval 0 _ _ rfl rfl) h0
 obtain ⟨xp, Np, cp, ps, rfl, hps, hpy⟩ := openBytes14 (hval 1 _ _ rfl rfl) h1
 obtain ⟨x, rfl, rfl, rfl, wx⟩ := open_int Tryd.underlying5 (hval 2 5 v2 rfl rfl) h2
 exact (least_walk xb Nb cb bs a b c f xp Np cp ps x (by have := u8_ends wx; omega) W (sg_of_laid hL) hbs hby ha hb hff hps hpy).mono fun e W' ⟨he, hb⟩ => ⟨_, he, Close.law_post laidOut (by kernel_rfl) rfl (by kernel_rfl) Tryd.underlying4 hW' rfl hb⟩
theorem over : Rows.PriceLeastSaid :=
 OpenClaim.holds_of_wide 3 Tryd.f3 rfl rfl rfl rfl rfl rfl rfl ⟨rfl, rfl, rfl, rfl, rfl⟩ rfl rfl rfl rfl rfl (by kernel_rfl) Tryd.func3 (by kernel_rfl)
  (of_decide_eq_true (by kernel_rfl)) (by unfold Func.isWrapper; first | (rw [if_pos (by decide +kernel)]; kernel_rfl) | (rw [if_neg (by decide +kernel)]; exact ⟨rfl, rfl⟩))
  (fun os started H enc _ => lifted os started H enc)
theorem proved : Rows.PriceLeastCardSaid :=
 Claim7.holds_tied_plain_at .later [] [.data, .data, .data] true (true, "1ca01e46e6a1680efaf2cd5a721b3d3d0c579c25cc0efc216c20249d2f05a4d0") false
  over (fun _ h => by cases h) (by kernel_rfl) (fun _ h => by cases h) priceLeast_row_tie rfl ⟨rfl, rfl⟩ (by kernel_rfl) rfl
  (fun f fn hf hfn => by
   obtain rfl : f = 3 := Option.some.inj ((show Tryd.prog.funcNamed "consign/consignlaw14.PriceLeast" = some 3 by kernel_rfl).symm.trans hf) |>.symm
   obtain rfl : fn = Tryd.f3 := (Option.some.inj (Tryd.func3.symm.trans hfn)).symm
   exact ⟨by kernel_rfl, fun j t ht => by
    rw [Tryd.params3] at ht
    have hm : t ∈ [26, 22, 5] := by simpa using Array.mem_of_getElem? ht
    have hall : ([26, 22, 5].all fun u => !Tryd.prog.wantsStandIn u) = true := by kernel_rfl
    exact (show Tryd.prog.wantsStandIn t = false by simpa using List.all_eq_true.1 hall t hm)⟩)
  (by kernel_rfl)
#print axioms proved
end Go.Proofs.YteclpblfleakhaaDoor.priceLeast

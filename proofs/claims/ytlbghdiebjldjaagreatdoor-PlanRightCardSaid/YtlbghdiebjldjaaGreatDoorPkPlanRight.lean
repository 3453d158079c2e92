import Derived.Test.YtlbghdiebjldjaaGreatDoorPkPlanHolds
import Derived.Test.YtlbghdiebjldjaaGreatDoorPkPlanTells

namespace Go.Proofs.YtlbghdiebjldjaaGreatDoor.Plan
open Go.RowKit Go.Sort Go.Proofs.YtlbghdiebjldjaaGreatDoor.Mem Go.Proofs.YtlbghdiebjldjaaGreatDoor.Route Go.Proofs.YtlbghdiebjldjaaGreatDoor.When Go.Proofs.YtlbghdiebjldjaaGreatDoor.Load Go.Proofs.YtlbghdiebjldjaaGreatDoor.Ins Go.Proofs.YtlbghdiebjldjaaGreatDoor.Feas
set_option linter.unusedVariables false
theorem tot_bd {S : St} (h : Ok S) : -4194304 ≤ totS S ∧ totS S ≤ 12000000 := by
 have h1 := totK_bd h S.vs.length (Nat.le_refl _)
 rw [totK_all h rfl] at h1
 have := h.cnt
 omega
set_option maxRecDepth 100000 in
set_option maxHeartbeats 16000000 in
theorem right_walk (xb : Option Addr) (Nb cb : Nat) (bs : List Int) (a b c f : Int) (ua : Value) (acts : List (Int × Int)) (w : World) (hsg : Sg w) (hrow : RowB w.heap.size w (.slice xb Nb cb) 1 (bs.map byV)) (hby : ∀ x ∈ bs, 0 ≤ x ∧ x < 256) (ha : 0 ≤ a ∧ a < 256) (hb : 0 ≤ b ∧ b < 256) (hf : 0 ≤ f ∧ f < 256)
 (hacts : Acts w.heap.size w ua acts) (hac : ∀ x ∈ acts, (0 ≤ x.1 ∧ x.1 < 256) ∧ 0 ≤ x.2 ∧ x.2 < 256) :
 Calls Tryz.prog 5 #[.agg #[.slice xb Nb cb, .int .u8 a, .int .u8 b, .int .i64 c, .int .u8 f], ua] w fun e w' => e = .returned (.bool true) ∧ Below w.heap.size w w' := by
 obtain ⟨q, hq⟩ : ∃ q, w.heap.size = q := ⟨_, rfl⟩
 have hg0 := hsg.pos
 rw [hq] at hg0
 obtain ⟨w0, hw0⟩ : ∃ w0, w.alloc (.cells #[.slice xb Nb cb, .int .u8 a, .int .u8 b, .int .i64 c, .int .u8 f] 26) = w0 := ⟨_, rfl⟩
 have hs0 : w0.heap.size = q + 1 := by rw [← hw0]; simp [hq]
 have hb0 : Below q w w0 := by rw [← hw0]; exact (Below.refl _ _).alloc (by omega) _
 have hd0 : At w0 q 26 #[.slice xb Nb cb, .int .u8 a, .int .u8 b, .int .i64 c, .int .u8 f] := by rw [← hw0]; exact At.new_ _ _ _ hq.symm
 have hsg0 := hsg.on (by rw [hq]; exact hb0)
 rw [hq] at hrow hacts
 have hrow0 : Hid (RowB w0.heap.size w0 (.slice xb Nb cb) 1 (bs.map byV)) := Lib.hid ((hrow.keep hb0 (Nat.le_refl _)).more (by omega))
 have hWk := works_any w0 hsg0
 obtain ⟨xa, Na, ca, rfl, hNa0, hca1, hca2⟩ := hacts.opened
 have hacts' := Lib.hid hacts
 have hac' := Lib.hid hac
 have hNa := Lib.hid hNa0
 unfold maxLen at hca2
 have hw0' := Lib.hid hw0
 have hq' := Lib.hid hq
 have hd0' := Lib.hid hd0
 have hsg0' := Lib.hid hsg0
 have hby' := Lib.hid hby
 have hg0' := Lib.hid hg0
 have hb0' := Lib.hid hb0
 have hs0' : Hid (w0.heap.size = q + 1) := Lib.hid hs0
 clear hw0 hq hsg hrow hacts hac hNa0 hd0 hsg0 hby hg0 hb0 hs0
 go_enter Tryz.func5, Tryz.ntmps5
 go_upto_region 1 with fail
 try simp only [hq'.out]
 try rw [hw0'.out]
 go_wp2_with fail
 refine hWk.mono ?_
 clear hWk
 rintro e w1 ⟨rfl, hb1⟩
 have hd1 := hd0'.out.keep hb1 hd0'.out.inside
 have hsg1 := Lib.hid (hsg0'.out.on hb1)
 have hB1 := Lib.hid (hb0'.out.trans (hb1.mono (by have := hs0'.out; omega : q ≤ w0.heap.size)))
 have hs1 : q < w1.heap.size := by have := hb1.size; have := hs0'.out; omega
 have hP := parts13_any xb Nb cb bs a b c f w1 ((hrow0.out.keep hb1 (Nat.le_refl _)).more hb1.size) hby'.out ha hb hf
 have c0 := hd1.cell 0
 have c1 := hd1.cell 1
 have c2 := hd1.cell 2
 have c3 := hd1.cell 3
 have c4 := hd1.cell 4
 simp at c0 c1 c2 c3 c4
 clear hb1 hd1 hrow0 hd0' hsg0' hb0' hs0'
 go_wp2_with fail
 refine hP.mono ?_
 clear hP c0 c1 c2 c3 c4
 rintro e w2 ⟨⟨uf, ut, rfl, vs, t, hPa⟩, hb2⟩
 have hsg2 := Lib.hid (hsg1.out.on hb2)
 have hB2 := Lib.hid (hB1.out.trans (hb2.mono (by omega : q ≤ w1.heap.size)))
 have hE0 := newE_drawn hPa
 have hOk := Lib.hid (new_drawn hPa)
 have hmem := hPa.mem
 have hpl1 := Lib.hid (own_plain hPa.ovs)
 have hpl2 := Lib.hid (own_plain hPa.ot)
 have hlv : vs.length ≤ 1000000 := by have := hPa.cnt; omega
 have hlt : t.length ≤ 1000000 := by have := hPa.tl; omega
 have hN := New_any uf ut vs t w2 hmem.1 hmem.2 hpl1.out hpl2.out hlv hlt
 have hmem' := Lib.hid hmem
 rw [hE0] at hN
 obtain ⟨xf, cf, rfl, -, -⟩ := owns_slice hPa.ovs
 obtain ⟨xt, ct, rfl, -, -⟩ := owns_slice hPa.ot
 have hg2 : Hid (1 < w2.heap.size ∧ 0 < w2.heap.size) := Lib.hid hsg2.out.pos
 obtain ⟨q2, hq2⟩ : ∃ q2, w2.heap.size = q2 := ⟨_, rfl⟩
 have hqq : q ≤ q2 := by have := hb2.size; omega
 clear hb2 hPa hmem hE0 hsg1 hB1 hlv hlt
 go_wp2_with fail
 refine hN.mono ?_
 clear hN
 rintro e w3 ⟨-, hN, hb3⟩
 obtain ⟨p, rfl, G, hG, hGD⟩ := hN (by trivial)
 have hO3 : Hid (Own1 q2 w2 w3 p (newS vs t)) := Lib.hid ⟨⟨G, G, hGD G (fun k h => h) (fun k h => .inl h), fun k hk => by have := (hG k hk).1; omega⟩, hOk.out, hsg2.out.on hb3, by rw [← hq2]; exact hb3⟩
 have hs3 : q2 ≤ w3.heap.size := by rw [← hq2]; exact hb3.size
 have hgQ : Hid (1 < q2 ∧ 0 < q2) := Lib.hid (by have := hg2.out; rw [hq2] at this; exact this)
 have hmem2 := hmem'
 rw [hq2] at hmem2
 have hB2' : Hid (∀ W, Below q2 w2 W → Below q w W) := Lib.hid (fun W hW => hB2.out.trans (hW.mono hqq))
 have hBs : Hid (∀ W, Below q2 w2 W → q2 ≤ W.heap.size) := Lib.hid (fun W hW => by rw [← hq2]; exact hW.size)
 have hholds : Hid (∀ (W : World) (D G : Nat → Prop) (S : St), S.vs = vs → S.t = t → Ok S → PlanAt D G W p S → Below q2 w2 W → Calls Tryz.prog 21 #[.pointer (some ⟨p, 0, none⟩), .slice xf vs.length cf, .slice xt t.length ct] W fun e w' => e = .returned (.bool true) ∧ Below W.heap.size W w') := Lib.hid (fun W D G S e1 e2 ho hA hW => by
  have hz : q2 ≤ W.heap.size := hBs.out W hW
  refine holds_any _ _ W hA ho ?_ ?_
  · rw [e1]; exact RowB.more (RowB.keep hmem2.out.1 hW (Nat.le_refl _)) hz
  · rw [e2]; exact RowB.more (RowB.keep hmem2.out.2 hW (Nat.le_refl _)) hz)
 have hcellsA : Hid (∀ (k : Nat) (x y : Int), acts[k]? = some (x, y) → ∀ W, Below q2 w2 W → ∃ g o, xa = some ⟨g, o, none⟩ ∧ g < W.heap.size ∧ W.cell? ⟨g, o + k * 2, none⟩ = some (.int .u8 x) ∧ W.cell? ⟨g, o + k * 2 + 1, none⟩ = some (.int .u8 y)) := Lib.hid (fun k x y hxy W hW => by
  obtain ⟨g, o, e, hg, d0, d1⟩ := Acts.at (RowB.keep hacts'.out (hB2'.out W hW) (Nat.le_refl _)) hxy
  have hz : q2 ≤ W.heap.size := hBs.out W hW
  exact ⟨g, o, e, by omega, d0, d1⟩)
 obtain ⟨nv, hnv⟩ : ∃ n, vs.length = n := ⟨_, rfl⟩
 obtain ⟨nt, hnt⟩ : ∃ n, t.length = n := ⟨_, rfl⟩
 rw [hnv, hnt] at hholds
 rw [hnv, hnt]
 clear hN hG hGD hb3 hsg2 hB2 hOk hmem' hmem2 hpl1 hpl2 hg2 hq2 hnv hnt hacts'
 go_wp2
 go_loopw [9] (fun i wr => ∃ (k : Nat) (S : St), k ≤ Na ∧ k ≤ 30 ∧ i = .int .i64 k ∧ S.vs = vs ∧ S.t = t ∧ Own1 q2 w2 wr p S ∧ q2 ≤ wr.heap.size)
  (fun i _ => Na - (intOf i).toNat)
 case atStart => exact ⟨0, newS vs t, Nat.zero_le _, by omega, rfl, rfl, rfl, hO3.out, hs3⟩
 case round =>
  obtain ⟨k, S, hk, hk30, rfl, hvs, ht, hO, hsw⟩ := hrel
  by_cases hlt : k < Na ∧ k < 30
  case neg =>
   obtain ⟨D, G9, hA⟩ := hO.plan
   have hH := hholds.out wr D G9 S hvs ht hO.ok hA hO.b
   have hB := Lib.hid (hB2'.out wr hO.b)
   have hO' := Lib.hid hO
   have hqw : q ≤ wr.heap.size := Nat.le_trans hqq hsw
   clear hO hA
   by_cases hka : k < Na
   · have hki : (k : Int) < (Na : Int) := by omega
     have hkn : ¬ ((k : Int) < 30) := by omega
     go_wp2_with fail
     refine hH.mono ?_
     clear hH
     rintro e w5 ⟨rfl, hb5⟩
     have hf5 := Lib.hid (hB.out.trans (hb5.mono hqw))
     clear hb5
     go_wp2
     go_ret
     exact ⟨rfl, by rw [hq'.out]; exact hf5.out⟩
   · have hki : ¬ ((k : Int) < (Na : Int)) := by omega
     go_wp2_with fail
     refine hH.mono ?_
     clear hH
     rintro e w5 ⟨rfl, hb5⟩
     have hf5 := Lib.hid (hB.out.trans (hb5.mono hqw))
     clear hb5
     go_wp2
     go_ret
     exact ⟨rfl, by rw [hq'.out]; exact hf5.out⟩
  obtain ⟨hka, hk3⟩ := hlt
  have hki : (k : Int) < (Na : Int) := by omega
  have hk3i : (k : Int) < 30 := by omega
  obtain ⟨⟨x, y⟩, hxy⟩ : ∃ s, acts[k]? = some s := ⟨acts[k]'(by rw [hNa.out]; exact hka), List.getElem?_eq_getElem _⟩
  obtain ⟨hxb, hyb⟩ := hac'.out _ (List.mem_of_getElem? hxy)
  simp only at hxb hyb
  obtain ⟨hx0, hx1⟩ := hxb
  obtain ⟨hy0, hy1⟩ := hyb
  have hcells := Lib.hid (hcellsA.out k x y hxy)
  have hkN := Lib.hid (And.intro hka hk3)
  have hvs' := Lib.hid hvs
  have ht' := Lib.hid ht
  have hO' := Lib.hid hO
  have hok := Lib.hid hO.ok
  obtain ⟨D, G9, hA, hGq⟩ := hO.ex
  have hTo := Total_any wr hA hO.ok
  have hA' := Lib.hid hA
  have hGq' := Lib.hid hGq
  have htb := tot_bd hO.ok
  have htt := Lib.hid (take_tot hO.ok (y % 12 - 1))
  have hpt := put_tot hO.ok (y % 12 - 1)
  have htg := Lib.hid (take_gone hO.ok (y % 12 - 1))
  have htb2 := tot_bd (put_ok hO.ok (y % 12 - 1))
  have htk := Lib.hid (take_ok hO.ok (y % 12 - 1))
  have hpk := Lib.hid (put_ok hO.ok (y % 12 - 1))
  have hwp := Lib.hid (fun h => where_put hO.ok (r := y % 12 - 1) h)
  obtain ⟨T0, hT0⟩ : ∃ T, totS S = T := ⟨_, rfl⟩
  rw [hT0] at hTo htb hpt htt
  obtain ⟨r, hr⟩ : ∃ r, y % 12 - 1 = r := ⟨_, rfl⟩
  rw [hr] at hpt htt htg htb2 htk hpk hwp
  have hrb : -1 ≤ r ∧ r ≤ 10 := by omega
  clear hxy hvs ht hO hA hGq hT0 hka hk3
  go_wp2_with fail
  refine hTo.mono ?_
  clear hTo
  rintro e w4 ⟨rfl, hb4⟩
  have hO4 := Lib.hid (hO'.out.on hb4 hsw)
  have hs4 : q2 ≤ w4.heap.size := Nat.le_trans hsw hb4.size
  have hA4 := Lib.hid (hA'.out.on hb4)
  clear hb4 hO' hA'
  obtain ⟨ga, oa, rfl, hga, d0, d1⟩ := hcells.out w4 hO4.out.b
  by_cases hx4 : x % 4 = 1
  · have hHas := Has_any r w4 hA4.out hok.out
    go_upto_region 12 with fail
    try rw [hr]
    go_upto_region 13 with fail
    clear d0 d1 hr
    go_wp2_with fail
    refine hHas.mono ?_
    clear hHas
    rintro e w5 ⟨rfl, hb5⟩
    have hO5 := Lib.hid (hO4.out.on hb5 hs4)
    have hs5 : q2 ≤ w5.heap.size := Nat.le_trans hs4 hb5.size
    have hA5 := Lib.hid (hA4.out.on hb5)
    have hTk := Take_any r w5 hA5.out hok.out
    clear hb5 hO4 hA4
    go_wp2_with fail
    refine hTk.mono ?_
    clear hTk
    rintro e w6 ⟨rfl, hp6, hc6⟩
    obtain ⟨hO6', hs6⟩ := hO5.out.put hGq'.out hgQ.out hs5 hp6 hc6 htk.out
    have hO6 := Lib.hid hO6'
    obtain ⟨D6, G6, hA6'⟩ := hO6'.plan
    have hA6 := Lib.hid hA6'
    have hHas := Has_any r w6 hA6'  htk.out
    rw [decide_eq_false (by have := htg.out; omega)] at hHas
    have hv6 : Hid ((takeS S r).vs = vs ∧ (takeS S r).t = t) := Lib.hid ⟨(takeS_t S r).2.trans hvs'.out, (takeS_t S r).1.trans ht'.out⟩
    clear hp6 hc6 hO6' hA6' hO5 hA5
    have hcase : (decide (0 ≤ whereV S.rows r) = true ∧ takeE S r = 0) ∨ (decide (0 ≤ whereV S.rows r) = false ∧ takeE S r = 12) := by
     unfold takeE
     by_cases hV : whereV S.rows r < 0
     · exact .inr ⟨by simp; omega, by rw [if_pos hV]⟩
     · exact .inl ⟨by simp; omega, by rw [if_neg hV]⟩
    obtain ⟨bb, hbb⟩ : ∃ b, decide (0 ≤ whereV S.rows r) = b := ⟨_, rfl⟩
    obtain ⟨E, hE⟩ : ∃ E, takeE S r = E := ⟨_, rfl⟩
    rw [hbb, hE] at hcase
    rw [hbb, hE]
    clear hbb hE
    rcases hcase with ⟨rfl, rfl⟩ | ⟨rfl, rfl⟩
    all_goals
     go_wp2_with fail
     refine hHas.mono ?_
     clear hHas
     rintro e w7 ⟨rfl, hb7⟩
     have hO7 := Lib.hid (hO6.out.on hb7 hs6)
     have hs7 : q2 ≤ w7.heap.size := Nat.le_trans hs6 hb7.size
     have hA7 := Lib.hid (hA6.out.on hb7)
     have hTo := Total_any w7 hA7.out htk.out
     obtain ⟨T1, hT1⟩ : ∃ T, totS (takeS S r) = T := ⟨_, rfl⟩
     have hle : ¬ T0 < T1 := by have := htt.out; rw [hT1] at this; omega
     rw [hT1] at hTo
     clear hb7 hO6 hA6 hT1
     go_wp2_with fail
     refine hTo.mono ?_
     clear hTo
     rintro e w8 ⟨rfl, hb8⟩
     have hO8 := Lib.hid (hO7.out.on hb8 hs7)
     have hs8 : q2 ≤ w8.heap.size := Nat.le_trans hs7 hb8.size
     have hH := hholds.out w8 _ _ _ hv6.out.1 hv6.out.2 htk.out (hA7.out.on hb8) hO8.out.b
     clear hb8 hO7 hA7
     go_wp2_with fail
     refine hH.mono ?_
     clear hH
     rintro e w9 ⟨rfl, hb9⟩
     have hO9 := Lib.hid (hO8.out.on hb9 hs8)
     have hs9 : q2 ≤ w9.heap.size := Nat.le_trans hs8 hb9.size
     clear hb9
     go_wp2
     go_roundw
     case rel => exact ⟨k + 1, _, hkN.out.1, hkN.out.2, by go_num, hv6.out.1, hv6.out.2, hO9.out, hs9⟩
     case measure => have := hkN.out.1; simp [intOf]; omega
  · have hx5 : (x % 4 == 1) = false := by simpa using hx4
    have hPut := Put_any r w4 hA4.out hok.out hO4.out.sg
    go_upto_region 12 with fail
    try rw [hr]
    go_upto_region 17 with fail
    clear d0 d1 hr
    go_wp2_with fail
    refine hPut.mono ?_
    clear hPut
    rintro e w6 ⟨rfl, hp6, hc6⟩
    obtain ⟨hO6', hs6⟩ := hO4.out.put hGq'.out hgQ.out hs4 hp6 hc6 hpk.out
    have hO6 := Lib.hid hO6'
    obtain ⟨D6, G6, hA6'⟩ := hO6'.plan
    have hA6 := Lib.hid hA6'
    have hHas := Has_any r w6 hA6' hpk.out
    have hTo := fun (W : World) hb => Total_any W (hA6.out.on (W' := W) hb) hpk.out
    have hv6 : Hid ((putS S r).vs = vs ∧ (putS S r).t = t) := Lib.hid ⟨(putS_t S r).2.trans hvs'.out, (putS_t S r).1.trans ht'.out⟩
    obtain ⟨T1, hT1⟩ : ∃ T, totS (putS S r) = T := ⟨_, rfl⟩
    obtain ⟨n, hn⟩ : ∃ n, priceN S r = n := ⟨_, rfl⟩
    rw [hT1] at hpt htb2
    rw [hn] at hpt
    rw [hn]
    obtain ⟨hpt1, hpt2⟩ := hpt
    have hT1' := Lib.hid hT1
    have hTs := Lib.hid hpt1
    have hnl : ¬ (n < 0) := by omega
    have hnb : n ≤ 20000000 := by omega
    clear hp6 hc6 hO6' hA6' hO4 hA4 hT1 hn hpt1
    by_cases hE : priceE S r = 0
    · have hyes : decide (0 ≤ whereV (putS S r).rows r) = true := decide_eq_true (hwp.out hE)
      rw [hyes] at hHas
      rw [hE]
      clear hE hyes
      go_wp2_with fail
      refine hHas.mono ?_
      clear hHas
      rintro e w7 ⟨rfl, hb7⟩
      have hTo7 := hTo w7 hb7
      rw [hT1'.out] at hTo7
      have hO7 := Lib.hid (hO6.out.on hb7 hs6)
      have hs7 : q2 ≤ w7.heap.size := Nat.le_trans hs6 hb7.size
      have hA7 := Lib.hid (hA6.out.on hb7)
      clear hb7 hTo hO6 hA6
      rw [hTs.out] at hTo7
      go_wp2_with fail
      refine hTo7.mono ?_
      clear hTo7
      rintro e w8 ⟨rfl, hb8⟩
      have hO8 := Lib.hid (hO7.out.on hb8 hs7)
      have hs8 : q2 ≤ w8.heap.size := Nat.le_trans hs7 hb8.size
      have hH := hholds.out w8 _ _ _ hv6.out.1 hv6.out.2 hpk.out (hA7.out.on hb8) hO8.out.b
      clear hb8 hO7 hA7
      go_wp2_with fail
      refine hH.mono ?_
      clear hH
      rintro e w9 ⟨rfl, hb9⟩
      have hO9 := Lib.hid (hO8.out.on hb9 hs8)
      have hs9 : q2 ≤ w9.heap.size := Nat.le_trans hs8 hb9.size
      clear hb9
      go_wp2
      go_roundw
      case rel => exact ⟨k + 1, _, hkN.out.1, hkN.out.2, by go_num, hv6.out.1, hv6.out.2, hO9.out, hs9⟩
      case measure => have := hkN.out.1; simp [intOf]; omega
    · obtain ⟨E, hEE⟩ : ∃ E, priceE S r = E := ⟨_, rfl⟩
      rw [hEE] at hE ⊢
      have hEf : (E == 0) = false := by simpa using hE
      have hTo6 := hTo w6 (Below.refl _ _)
      rw [hT1'.out, hTs.out] at hTo6
      clear hEE hHas hTo
      go_wp2_with fail
      refine hTo6.mono ?_
      clear hTo6
      rintro e w8 ⟨rfl, hb8⟩
      have hO8 := Lib.hid (hO6.out.on hb8 hs6)
      have hs8 : q2 ≤ w8.heap.size := Nat.le_trans hs6 hb8.size
      have hH := hholds.out w8 _ _ _ hv6.out.1 hv6.out.2 hpk.out (hA6.out.on hb8) hO8.out.b
      clear hb8 hO6 hA6
      go_wp2_with fail
      refine hH.mono ?_
      clear hH
      rintro e w9 ⟨rfl, hb9⟩
      have hO9 := Lib.hid (hO8.out.on hb9 hs8)
      have hs9 : q2 ≤ w9.heap.size := Nat.le_trans hs8 hb9.size
      clear hb9
      go_wp2
      go_roundw
      case rel => exact ⟨k + 1, _, hkN.out.1, hkN.out.2, by go_num, hv6.out.1, hv6.out.2, hO9.out, hs9⟩
      case measure => have := hkN.out.1; simp [intOf]; omega
end Go.Proofs.YtlbghdiebjldjaaGreatDoor.Plan

import Derived.Test.YtlbghdiebjldjaaGreatDoorPkPlanWorks

namespace Go.Proofs.YtlbghdiebjldjaaGreatDoor.Plan
open Go.RowKit Go.Sort Go.Proofs.YtlbghdiebjldjaaGreatDoor.Mem Go.Proofs.YtlbghdiebjldjaaGreatDoor.Route Go.Proofs.YtlbghdiebjldjaaGreatDoor.When Go.Proofs.YtlbghdiebjldjaaGreatDoor.Load Go.Proofs.YtlbghdiebjldjaaGreatDoor.Ins Go.Proofs.YtlbghdiebjldjaaGreatDoor.Feas
set_option linter.unusedVariables false
structure Done (q : Nat) (w w' : World) (p : Nat) (uf ut : Value) (S : St) : Prop where
 ex : ∃ w1, PartsAt q w1 uf ut S.vs S.t ∧ Below q w w1 ∧ q ≤ w1.heap.size ∧ Own1 w1.heap.size w1 w' p S
theorem Done.on {q : Nat} {w W W' : World} {p : Nat} {uf ut : Value} {S : St} (h : Done q w W p uf ut S) (hb : Below W.heap.size W W') : Done q w W' p uf ut S := by
 obtain ⟨w1, h1, h2, h3, h4⟩ := h.ex
 exact ⟨w1, h1, h2, h3, h4.on hb h4.b.size⟩
theorem Done.below {q : Nat} {w W : World} {p : Nat} {uf ut : Value} {S : St} (h : Done q w W p uf ut S) : Below q w W ∧ q ≤ W.heap.size := by
 obtain ⟨w1, h1, h2, h3, h4⟩ := h.ex
 exact ⟨h2.trans (h4.b.mono h3), Nat.le_trans h3 h4.b.size⟩
theorem Done.plan {q : Nat} {w W : World} {p : Nat} {uf ut : Value} {S : St} (h : Done q w W p uf ut S) : (∃ D G, PlanAt D G W p S ∧ ∀ k, G k → q ≤ k) ∧ Ok S ∧ Sg W := by
 obtain ⟨w1, h1, h2, h3, h4⟩ := h.ex
 obtain ⟨D, G, h5, h6⟩ := h4.ex
 exact ⟨⟨D, G, h5, fun k hk => Nat.le_trans h3 (h6 k hk)⟩, h4.ok, h4.sg⟩
theorem Done.mem {q : Nat} {w W : World} {p : Nat} {uf ut : Value} {S : St} (h : Done q w W p uf ut S) : Vhs W.heap.size W uf S.vs ∧ Rqs W.heap.size W ut S.t := by
 obtain ⟨w1, h1, h2, h3, h4⟩ := h.ex
 have hm := h1.mem
 exact ⟨hm.1.on h4.b, hm.2.on h4.b⟩
set_option maxRecDepth 100000 in
set_option maxHeartbeats 16000000 in
theorem done_any (xb : Option Addr) (Nb cb : Nat) (bs : List Int) (a b c f : Int) (ua : Value) (acts : List (Int × Int)) (w : World) (hsg : Sg w) (hrow : RowB w.heap.size w (.slice xb Nb cb) 1 (bs.map byV)) (hby : ∀ x ∈ bs, 0 ≤ x ∧ x < 256) (ha : 0 ≤ a ∧ a < 256) (hb : 0 ≤ b ∧ b < 256) (hf : 0 ≤ f ∧ f < 256)
 (hacts : Acts w.heap.size w ua acts) (hac : ∀ x ∈ acts, (0 ≤ x.1 ∧ x.1 < 256) ∧ 0 ≤ x.2 ∧ x.2 < 256) :
 Calls Tryz.prog 22 #[.agg #[.slice xb Nb cb, .int .u8 a, .int .u8 b, .int .i64 c, .int .u8 f], ua] w fun e w' => ∃ p uf ut, e = .returned (.tuple #[.pointer (some ⟨p, 0, none⟩), uf, ut]) ∧ ∃ S, Done w.heap.size w w' p uf ut S := by
 obtain ⟨q, hq⟩ : ∃ q, w.heap.size = q := ⟨_, rfl⟩
 have hg0 := hsg.pos
 rw [hq] at hg0
 obtain ⟨w0, hw0⟩ : ∃ w0, w.alloc (.cells #[.slice xb Nb cb, .int .u8 a, .int .u8 b, .int .i64 c, .int .u8 f] 26) = w0 := ⟨_, rfl⟩
 have hs0 : w0.heap.size = q + 1 := by rw [← hw0]; simp [hq]
 have hb0 : Below q w w0 := by rw [← hw0]; exact (Below.refl _ _).alloc (by omega) _
 have hd0 : At w0 q 26 #[.slice xb Nb cb, .int .u8 a, .int .u8 b, .int .i64 c, .int .u8 f] := by rw [← hw0]; exact At.new_ _ _ _ hq.symm
 have hsg0 := hsg.on (by rw [hq]; exact hb0)
 rw [hq] at hrow hacts
 have hP := parts13_any xb Nb cb bs a b c f w0 ((hrow.keep hb0 (Nat.le_refl _)).more (by omega)) hby ha hb hf
 obtain ⟨xa, Na, ca, rfl, hNa0, hca1, hca2⟩ := hacts.opened
 have hacts' := Lib.hid hacts
 have hac' := Lib.hid hac
 have hNa := Lib.hid hNa0
 unfold maxLen at hca2
 have c0 := hd0.cell 0
 have c1 := hd0.cell 1
 have c2 := hd0.cell 2
 have c3 := hd0.cell 3
 have c4 := hd0.cell 4
 simp at c0 c1 c2 c3 c4
 have hw0' := Lib.hid hw0
 have hq' := Lib.hid hq
 clear hw0 hq hsg hrow hby ha hb hf hacts hac hNa0 hd0
 go_enter Tryz.func22, Tryz.ntmps22
 go_upto_region 1 with fail
 try simp only [hq'.out]
 try rw [hw0'.out]
 go_wp2_with fail
 refine hP.mono ?_
 clear hP c0 c1 c2 c3 c4
 rintro e w2 ⟨⟨uf, ut, rfl, vs, t, hPa⟩, hb2⟩
 have hsg2 := Lib.hid (hsg0.on hb2)
 have hB2 := Lib.hid (hb0.trans (hb2.mono (by omega : q ≤ w0.heap.size)))
 have hE0 := newE_drawn hPa
 have hOk := Lib.hid (new_drawn hPa)
 have hmem := hPa.mem
 have hpl1 := Lib.hid (own_plain hPa.ovs)
 have hpl2 := Lib.hid (own_plain hPa.ot)
 have hlv : vs.length ≤ 1000000 := by have := hPa.cnt; omega
 have hlt : t.length ≤ 1000000 := by have := hPa.tl; omega
 have hN := New_any uf ut vs t w2 hmem.1 hmem.2 hpl1.out hpl2.out hlv hlt
 rw [hE0] at hN
 have hPq : Hid (PartsAt q w2 uf ut vs t) := Lib.hid ⟨owns_more hPa.ovs (by omega), owns_more hPa.ot (by omega), hPa.cnt, hPa.tl, hPa.vdr, hPa.tdr⟩
 obtain ⟨xf, cf, rfl, -, -⟩ := owns_slice hPa.ovs
 obtain ⟨xt, ct, rfl, -, -⟩ := owns_slice hPa.ot
 have hg2 : Hid (1 < w2.heap.size ∧ 0 < w2.heap.size) := Lib.hid hsg2.out.pos
 obtain ⟨q2, hq2⟩ : ∃ q2, w2.heap.size = q2 := ⟨_, rfl⟩
 have hqq : q ≤ q2 := by have := hb2.size; omega
 clear hb2 hPa hmem hE0 hsg0 hb0 hs0 hlv hlt
 go_wp2_with fail
 refine hN.mono ?_
 clear hN
 rintro e w3 ⟨-, hN, hb3⟩
 obtain ⟨p, rfl, G, hG, hGD⟩ := hN (by trivial)
 have hO3 : Hid (Own1 q2 w2 w3 p (newS vs t)) := Lib.hid ⟨⟨G, G, hGD G (fun k h => h) (fun k h => .inl h), fun k hk => by have := (hG k hk).1; omega⟩, hOk.out, hsg2.out.on hb3, by rw [← hq2]; exact hb3⟩
 have hs3 : q2 ≤ w3.heap.size := by rw [← hq2]; exact hb3.size
 have hgQ : Hid (1 < q2 ∧ 0 < q2) := Lib.hid (by have := hg2.out; rw [hq2] at this; exact this)
 have hB2' : Hid (∀ W, Below q2 w2 W → Below q w W) := Lib.hid (fun W hW => hB2.out.trans (hW.mono hqq))
 have hBs : Hid (∀ W, Below q2 w2 W → q2 ≤ W.heap.size) := Lib.hid (fun W hW => by rw [← hq2]; exact hW.size)
 have hcellsA : Hid (∀ (k : Nat) (x y : Int), acts[k]? = some (x, y) → ∀ W, Below q2 w2 W → ∃ g o, xa = some ⟨g, o, none⟩ ∧ g < W.heap.size ∧ W.cell? ⟨g, o + k * 2, none⟩ = some (.int .u8 x) ∧ W.cell? ⟨g, o + k * 2 + 1, none⟩ = some (.int .u8 y)) := Lib.hid (fun k x y hxy W hW => by
  obtain ⟨g, o, e, hg, d0, d1⟩ := Acts.at (RowB.keep hacts'.out (hB2'.out W hW) (Nat.le_refl _)) hxy
  have hz : q2 ≤ W.heap.size := hBs.out W hW
  exact ⟨g, o, e, by omega, d0, d1⟩)
 have hq2' := Lib.hid hq2
 obtain ⟨nv, hnv⟩ : ∃ n, vs.length = n := ⟨_, rfl⟩
 obtain ⟨nt, hnt⟩ : ∃ n, t.length = n := ⟨_, rfl⟩
 rw [hnv, hnt] at hPq
 rw [hnv, hnt]
 clear hN hG hGD hb3 hsg2 hB2' hBs hOk hpl1 hpl2 hg2 hq2 hnv hnt hacts'
 go_wp2
 go_loopw [11] (fun i wr => ∃ (k : Nat) (S : St), k ≤ Na ∧ k ≤ 30 ∧ i = .int .i64 k ∧ S.vs = vs ∧ S.t = t ∧ Own1 q2 w2 wr p S ∧ q2 ≤ wr.heap.size)
  (fun i _ => Na - (intOf i).toNat)
 case atStart => exact ⟨0, newS vs t, Nat.zero_le _, by omega, rfl, rfl, rfl, hO3.out, hs3⟩
 case round =>
  obtain ⟨k, S, hk, hk30, rfl, hvs, ht, hO, hsw⟩ := hrel
  by_cases hlt : k < Na ∧ k < 30
  case neg =>
   have hfin : Hid (Done w.heap.size w wr p (.slice xf nv cf) (.slice xt nt ct) S) := Lib.hid ⟨w2, by rw [hq'.out, hvs, ht]; exact hPq.out, by rw [hq'.out]; exact hB2.out, by rw [hq'.out, hq2'.out]; exact hqq, by rw [hq2'.out]; exact hO⟩
   clear hO hvs ht
   by_cases hka : k < Na
   · have hki : (k : Int) < (Na : Int) := by omega
     have hkn : ¬ ((k : Int) < 30) := by omega
     go_wp2
     refine bodyPost_ret (v := .tuple #[.pointer (some ⟨p, 0, none⟩), .slice xf nv cf, .slice xt nt ct]) (by simp [results, Tryz.results22, go_sem]) rfl ?_
     exact ⟨_, _, _, rfl, _, hfin.out⟩
   · have hki : ¬ ((k : Int) < (Na : Int)) := by omega
     go_wp2
     refine bodyPost_ret (v := .tuple #[.pointer (some ⟨p, 0, none⟩), .slice xf nv cf, .slice xt nt ct]) (by simp [results, Tryz.results22, go_sem]) rfl ?_
     exact ⟨_, _, _, rfl, _, hfin.out⟩
  obtain ⟨hka, hk3⟩ := hlt
  have hki : (k : Int) < (Na : Int) := by omega
  have hk3i : (k : Int) < 30 := by omega
  obtain ⟨⟨x, y⟩, hxy⟩ : ∃ s, acts[k]? = some s := ⟨acts[k]'(by rw [hNa.out]; exact hka), List.getElem?_eq_getElem _⟩
  obtain ⟨hxb, hyb⟩ := hac'.out _ (List.mem_of_getElem? hxy)
  simp only at hxb hyb
  obtain ⟨hx0, hx1⟩ := hxb
  obtain ⟨hy0, hy1⟩ := hyb
  obtain ⟨ga, oa, rfl, hga, d0, d1⟩ := hcellsA.out k x y hxy wr hO.b
  have hkN := Lib.hid (And.intro hka hk3)
  have hvs' := Lib.hid hvs
  have ht' := Lib.hid ht
  have hO' := Lib.hid hO
  have hok := Lib.hid hO.ok
  obtain ⟨D, G9, hA, hGq⟩ := hO.ex
  have hA' := Lib.hid hA
  have hGq' := Lib.hid hGq
  obtain ⟨r, hr⟩ : ∃ r, y % 12 - 1 = r := ⟨_, rfl⟩
  have hrb : -1 ≤ r ∧ r ≤ 10 := by omega
  clear hxy hvs ht hO hA hGq hka hk3
  by_cases hx4 : x % 4 = 1
  · have hTk := Take_any r wr hA'.out hok.out
    have hok2 := Lib.hid (take_ok hok.out r)
    have hv2 : Hid ((takeS S r).vs = vs ∧ (takeS S r).t = t) := Lib.hid ⟨(takeS_t S r).2.trans hvs'.out, (takeS_t S r).1.trans ht'.out⟩
    go_upto_region 9 with fail
    try rw [hr]
    go_upto_region 10 with fail
    clear d0 d1 hr
    go_wp2_with fail
    refine hTk.mono ?_
    clear hTk
    rintro e w6 ⟨rfl, hp6, hc6⟩
    obtain ⟨hO6', hs6⟩ := hO'.out.put hGq'.out hgQ.out hsw hp6 hc6 hok2.out
    have hO6 := Lib.hid hO6'
    clear hp6 hc6 hO6'
    go_wp2
    go_roundw
    case rel => exact ⟨k + 1, _, hkN.out.1, hkN.out.2, by go_num, hv2.out.1, hv2.out.2, hO6.out, hs6⟩
    case measure => have := hkN.out.1; simp [intOf]; omega
  · have hx5 : (x % 4 == 1) = false := by simpa using hx4
    have hPut := Put_any r wr hA'.out hok.out hO'.out.sg
    have hok2 := Lib.hid (put_ok hok.out r)
    have hv2 : Hid ((putS S r).vs = vs ∧ (putS S r).t = t) := Lib.hid ⟨(putS_t S r).2.trans hvs'.out, (putS_t S r).1.trans ht'.out⟩
    go_upto_region 9 with fail
    try rw [hr]
    go_upto_region 11 with fail
    clear d0 d1 hr
    go_wp2_with fail
    refine hPut.mono ?_
    clear hPut
    rintro e w6 ⟨rfl, hp6, hc6⟩
    obtain ⟨hO6', hs6⟩ := hO'.out.put hGq'.out hgQ.out hsw hp6 hc6 hok2.out
    have hO6 := Lib.hid hO6'
    clear hp6 hc6 hO6'
    go_wp2
    go_roundw
    case rel => exact ⟨k + 1, _, hkN.out.1, hkN.out.2, by go_num, hv2.out.1, hv2.out.2, hO6.out, hs6⟩
    case measure => have := hkN.out.1; simp [intOf]; omega
end Go.Proofs.YtlbghdiebjldjaaGreatDoor.Plan

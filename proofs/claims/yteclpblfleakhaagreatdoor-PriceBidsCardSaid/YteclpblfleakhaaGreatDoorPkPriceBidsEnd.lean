import Derived.Test.YteclpblfleakhaaGreatDoorPkOpen
import Derived.Test.YteclpblfleakhaaGreatDoorPkPlanProg

namespace Go.Proofs.YteclpblfleakhaaGreatDoor.Price
open Go.RowKit Go.Sort Go.Proofs.YteclpblfleakhaaGreatDoor.Mem Go.Proofs.YteclpblfleakhaaGreatDoor.Order Go.Proofs.YteclpblfleakhaaGreatDoor.Route Go.Proofs.YteclpblfleakhaaGreatDoor.When Go.Proofs.YteclpblfleakhaaGreatDoor.Load Go.Proofs.YteclpblfleakhaaGreatDoor.Feas Go.Proofs.YteclpblfleakhaaGreatDoor.Ins Go.Proofs.YteclpblfleakhaaGreatDoor.Cheap Go.Proofs.YteclpblfleakhaaGreatDoor.Plan
set_option linter.unusedVariables false
set_option maxRecDepth 100000 in
set_option maxHeartbeats 16000000 in
theorem bids_walk (xb : Option Addr) (Nb cb : Nat) (bs : List Int) (a b c f : Int) (xp : Option Addr) (Np cp : Nat) (ps : List Int) (x : Int) (hx : 0 ≤ x ∧ x < 256) (w : World) (hsg : Sg3 w) (hrow : RowB w.heap.size w (.slice xb Nb cb) 1 (bs.map byV)) (hby : ∀ x ∈ bs, 0 ≤ x ∧ x < 256) (ha : 0 ≤ a ∧ a < 256) (hb : 0 ≤ b ∧ b < 256) (hf : 0 ≤ f ∧ f < 256) (hprow : RowB w.heap.size w (.slice xp Np cp) 1 (ps.map byV)) (hpby : ∀ x ∈ ps, 0 ≤ x ∧ x < 256) :
 Calls Tryz.prog 4 #[.agg #[.slice xb Nb cb, .int .u8 a, .int .u8 b, .int .i64 c, .int .u8 f], .slice xp Np cp, .int .u8 x] w fun e w' => e = .returned (.bool true) ∧ Below w.heap.size w w' := by
 obtain ⟨q, hq⟩ : ∃ q, w.heap.size = q := ⟨_, rfl⟩
 obtain ⟨w0, hw0⟩ : ∃ w0, w.alloc (.cells #[.slice xb Nb cb, .int .u8 a, .int .u8 b, .int .i64 c, .int .u8 f] 26) = w0 := ⟨_, rfl⟩
 have hs0 : w0.heap.size = q + 1 := by rw [← hw0]; simp [hq]
 have hb0 : Below q w w0 := by rw [← hw0]; exact (Below.refl _ _).alloc (by omega) _
 have hd0 : At w0 q 26 #[.slice xb Nb cb, .int .u8 a, .int .u8 b, .int .i64 c, .int .u8 f] := by rw [← hw0]; exact At.new_ _ _ _ hq.symm
 have hsg0 := Lib.hid (hsg.on (by rw [hq]; exact hb0))
 rw [hq] at hrow hprow ⊢
 have hw0' := Lib.hid hw0
 have hq' := Lib.hid hq
 have hmem := Lib.hid (And.intro hrow (And.intro hby (And.intro ha (And.intro hb hf))))
 have hpm := Lib.hid (And.intro hprow hpby)
 have hWk := works_any w0 hsg0.out
 clear hw0 hq hsg hrow hby ha hb hf hprow hpby
 go_enter Tryz.func4, Tryz.ntmps4
 go_upto_region 1 with fail
 try simp only [hq'.out]
 try rw [hw0'.out]
 go_wp2_with fail
 refine hWk.mono ?_
 clear hWk
 rintro e w1 ⟨rfl, hb1⟩
 have hd1 := hd0.keep hb1 hd0.inside
 have hB1 := Lib.hid (hb0.trans (hb1.mono (by omega : q ≤ w0.heap.size)))
 have hsg1 := Lib.hid (hsg0.out.on hb1)
 have hs1 : q + 1 ≤ w1.heap.size := by have := hb1.size; omega
 have hPt := parts14_any xb Nb cb bs a b c f w1 ((RowB.keep hmem.out.1 hB1.out (Nat.le_refl _)).more (by omega)) hmem.out.2.1 hmem.out.2.2.1 hmem.out.2.2.2.1 hmem.out.2.2.2.2
 have c0 := hd1.cell 0
 have c1 := hd1.cell 1
 have c2 := hd1.cell 2
 have c3 := hd1.cell 3
 have c4 := hd1.cell 4
 simp at c0 c1 c2 c3 c4
 clear hd0 hb0 hb1 hsg0 hmem hs0
 go_wp2_with fail
 refine hPt.mono ?_
 clear hPt c0 c1 c2 c3 c4 hd1
 rintro e w2 ⟨⟨gf, gr, ut, u0, u1, v0, v1, l0, l1, t, rfl, hPa⟩, hb2⟩
 have hpt := own_plain3 hPa.ot
 obtain ⟨xt, ct, rfl, -, -⟩ := owns_slice hPa.ot
 have hPa' := Lib.hid hPa
 have hsg2 := Lib.hid (hsg1.out.on hb2)
 have hB2 := Lib.hid (hB1.out.trans (hb2.mono (by omega)))
 have hs2 : q ≤ w2.heap.size := by have := hb2.size; omega
 have hm2 := Lib.hid hPa.mem
 have htl := hPa.tl
 rw [htl] at hpt hm2 ⊢
 have hn0 := hPa.new0
 have hMd := made_any xp Np cp ps w2 hsg2.out hm2.out.1 hm2.out.2.2 (.inr ⟨_, _, _, rfl⟩) hpt hn0.1 hn0.2 (by simp) (by omega) ((RowB.keep hpm.out.1 hB2.out (Nat.le_refl _)).more hs2) hpm.out.2
 clear hPa hb2 hB1 hsg1 hpm hpt hn0
 go_wp2_with fail
 refine hMd.mono ?_
 clear hMd
 rintro e w3 ⟨p, rfl, S, hvs0, ht0, hO⟩
 have hvt := Lib.hid (And.intro hvs0 ht0)
 have hP3 := Lib.hid hO
 have hB3 := Lib.hid (hB2.out.trans (hO.b.mono hs2))
 have hs3 : q ≤ w3.heap.size := Nat.le_trans hs2 hO.sz
 have hV3 : Hid (Vhs w3.heap.size w3 (.slice (some ⟨gf, 0, none⟩) 2 2) S.vs) := Lib.hid (by rw [hvs0]; exact hm2.out.1.on hO.b)
 have hT3 : Hid (Rqs w3.heap.size w3 (.slice xt 8 ct) S.t) := Lib.hid (by rw [ht0]; exact Rqs.on hm2.out.2.2 hO.b)
 have hnv : Hid (S.vs.length = 2) := Lib.hid (by rw [hvs0]; rfl)
 have hnt : Hid (S.t.length = 8) := Lib.hid (by rw [ht0]; exact htl)
 clear hO hvs0 ht0 htl
 obtain ⟨r, hr⟩ : ∃ r, x % 8 = r := ⟨_, rfl⟩
 obtain ⟨hx0, hx1⟩ := hx
 have hrb : 0 ≤ r ∧ r < 8 := by omega
 obtain ⟨D, G, hA, hG0⟩ := hP3.out.ex
 have hC := Take_any r w3 hA hP3.out.ok (by unfold I64; omega)
 have hG0' := Lib.hid hG0
 have hok4 := Lib.hid (take_ok hP3.out.ok r)
 have hv4 := Lib.hid (show (takeS S r).vs = S.vs ∧ (takeS S r).t = S.t from ⟨(takeS_t S r).2, (takeS_t S r).1⟩)
 clear hA hG0
 go_wp2_with fail
 refine hC.mono ?_
 clear hC
 rintro e w4 ⟨rfl, hp4, hc4⟩
 have hP4 := Lib.hid (hP3.out.step hG0'.out hp4 hc4 hok4.out)
 have hV4 : Hid (Vhs w4.heap.size w4 (.slice (some ⟨gf, 0, none⟩) 2 2) S.vs) := Lib.hid (by rw [hvt.out.1]; exact hm2.out.1.on hP4.out.b)
 have hT4 : Hid (Rqs w4.heap.size w4 (.slice xt 8 ct) S.t) := Lib.hid (by rw [hvt.out.2]; exact Rqs.on hm2.out.2.2 hP4.out.b)
 have hB4 := Lib.hid (hB2.out.trans (hP4.out.b.mono hs2))
 have hs4 : q ≤ w4.heap.size := Nat.le_trans hs2 hP4.out.sz
 clear hp4 hc4 hP3 hB3 hs3 hV3 hT3 hG0'
 obtain ⟨T, hT⟩ : ∃ T, takeS S r = T := ⟨_, rfl⟩
 rw [hT] at hP4 hok4 hv4
 clear hT hr hrb
 obtain ⟨D, G, hA, hG0⟩ := hP4.out.ex
 have hC := Routes_any w4 hA hok4.out
 clear hA hG0
 go_wp2_with fail
 refine hC.mono ?_
 clear hC
 rintro e w5 ⟨⟨u5, rfl, us5, hu5⟩, hb5⟩
 have hP5 := Lib.hid (hP4.out.on hb5)
 have hR5 := Lib.hid hu5.rws
 have hV5 : Hid (Vhs w5.heap.size w5 (.slice (some ⟨gf, 0, none⟩) 2 2) T.vs) := Lib.hid (by rw [hv4.out.1]; exact hV4.out.on hb5)
 have hT5 : Hid (Rqs w5.heap.size w5 (.slice xt 8 ct) T.t) := Lib.hid (by rw [hv4.out.2]; exact Rqs.on hT4.out hb5)
 have hB5 := Lib.hid (hB4.out.trans (hb5.mono hs4))
 have hs5 : q ≤ w5.heap.size := Nat.le_trans hs4 hb5.size
 obtain ⟨xr, cr, rfl, -, -⟩ := owns_slice hu5.1
 have hrl : T.rows.length = 2 := by rw [hok4.out.len, hv4.out.1, hnv.out]
 rw [hrl] at hR5 ⊢
 have hlen : Hid (∀ l ∈ T.rows, l.length ≤ 100) := Lib.hid (fun l hl => by have := ok_short hok4.out hl; omega)
 have hnum : Hid (∀ l ∈ T.rows, Nums l) := Lib.hid (fun l hl => ok_nums hok4.out hl)
 have htl : Hid (T.t.length ≤ 1000) := Lib.hid hok4.out.tl
 clear hu5 hb5 hP4 hV4 hT4 hB4 hs4 hrl
 go_wp2
 go_loopw [13] (fun i wr => ∃ k : Int, -1 ≤ k ∧ k ≤ 9 ∧ i = .int .i64 k ∧ Hid (Below w5.heap.size w5 wr))
  (fun i _ => (9 - intOf i).toNat)
 case atStart => exact ⟨-1, by omega, by omega, rfl, Lib.hid (Below.refl _ _)⟩
 case round =>
  obtain ⟨k, hk0, hk9, rfl, hbw⟩ := hrel
  by_cases hlt : k < 9
  case neg =>
   have hB6 := Lib.hid (hB5.out.trans (hbw.out.mono hs5))
   clear hbw
   go_wp2
   go_ret
   exact ⟨rfl, hB6.out⟩
  have hP6 := hP5.out.on hbw.out
  obtain ⟨D, G, hA, hG0⟩ := hP6.ex
  have hC := Bid_any k wr hA hP6.ok hP6.sg.sg
  obtain ⟨n, hn⟩ : ∃ n, bruteN T k = n := ⟨_, rfl⟩
  have hRf := Lib.hid (fun W (hW : Below wr.heap.size wr W) => refBrute_any T k W ((hV5.out.on hbw.out).on hW) ((hR5.out.on hbw.out).on hW) (Rqs.on (Rqs.on hT5.out hbw.out) hW) hlen.out hnum.out htl.out)
  rw [hn] at hC hRf
  clear hA hG0 hP6 hn
  go_wp2_with fail
  refine hC.mono ?_
  clear hC
  rintro e w6 ⟨rfl, hb6⟩
  have hC := hRf.out w6 hb6
  have hb6' := Lib.hid (hbw.out.trans (hb6.mono hbw.out.size))
  clear hb6 hRf
  go_wp2_with fail
  refine hC.mono ?_
  clear hC
  rintro e w7 ⟨rfl, hb7⟩
  have hb7' := Lib.hid (hb6'.out.trans (hb7.mono hb6'.out.size))
  clear hb7 hb6' hbw
  go_wp2
  go_roundw
  case rel => exact ⟨k + 1, by omega, by omega, by go_num, hb7'⟩
  case measure => simp [intOf]; omega
end Go.Proofs.YteclpblfleakhaaGreatDoor.Price
/-
  PriceBids, what a plan bids is the least rise that the document finds by going through all vehicles and places of its routes, returns true: for all drafts of vehicles and requests, requests that are put in (eight at most), and one that is taken out. Its condition: package load's variable signs, package cheap's variable none and package price's variable none are as the program's text lays them when the call begins, which the card ties to that text.
-/
namespace Go.Proofs.YteclpblfleakhaaGreatDoor.priceBids
open Go.ChangeShapes Go.WideShapes Go.ChangeAt Go.RowKit Go.Sort
open Go.Proofs.YteclpblfleakhaaGreatDoor.Laid Go.Proofs.YteclpblfleakhaaGreatDoor.When Go.Proofs.YteclpblfleakhaaGreatDoor.Plan Go.Proofs.YteclpblfleakhaaGreatDoor.Price
set_option linter.unusedVariables false
set_option maxRecDepth 100000 in
theorem lifted (os : Os) (started : os.Started) (H : Type) (enc : TypeId × Value → H) :
 ReturnsInHanded {} Tryz.checked os 4 .any (fun w args => (Rows.priceBidsSpec.pre enc Tryz.prog Tryz.f4 [] false w args ∧ laidMetH Tryz.prog Rows.priceBidsRow.laid w) ∧ sizedMet enc Tryz.prog Tryz.f4 (OpenSpec.ofChange Rows.priceBidsSpec) false w args)
  (Rows.priceBidsSpec.post enc Tryz.prog Tryz.f4 false true false false) := by
 refine returnsInHanded_of_change_and (C := Tryz.checked) (X := fun w _ => laidMetH Tryz.prog Rows.priceBidsRow.laid w) (fun _ _ _ hh h => h.of_heap hh) own started (by kernel_rfl) Tryz.func4
  (ChangeSpec.witness_shaped (enc := enc) (C := Tryz.checked) (os := os) (X := fun w _ => laidMetH Tryz.prog Rows.priceBidsRow.laid w) false (World.doorLaid Tryz.prog 400 os) #[.agg #[.slice none 0 0, .int .u8 0, .int .u8 0, .int .i64 0, .int .u8 0], .slice none 0 0, .int .u8 0] 8 rfl (World.shaped_of_RefB (by kernel_rfl) (by kernel_rfl)) (by kernel_rfl) (by kernel_rfl) (by kernel_rfl) (door_met os _)) ?_
 intro W base args ds gs before hval0 hW _ _ hL _
 have hval : ∀ (j : Nat) t v, Tryz.f4.params[j]? = some t → args[j]? = some v → Value.okWide Tryz.prog W .any base t v := hval0
 have hW' := hW
 obtain ⟨p, q, hA0, hV, rfl, hfz, hnd⟩ := hW
 have hA : DataW.TrodAll enc Tryz.prog W 0 (fun _ => true) true Tryz.f4.params.toList args.toList ds p := hA0
 rw [Tryz.params4] at hA hval
 obtain ⟨v0, vs0, d0, ds0, p0, q0, hargs, rfl, rfl, h0, r0⟩ := trodAll_cons hA
 obtain ⟨v1, vs1, d1, ds1, p1, q1, rfl, rfl, rfl, h1, r1⟩ := trodAll_cons r0
 obtain ⟨v2, vs2, d2, ds2, p2, q2, rfl, rfl, rfl, h2, r2⟩ := trodAll_cons r1
 obtain ⟨rfl, rfl, rfl⟩ := trodAll_nil r2
 obtain rfl : args = #[v0, v1, v2] := by cases args; simp_all
 obtain ⟨rfl, rfl⟩ := trodVars_none hV
 obtain ⟨xb, Nb, cb, bs, a, b, c, f, rfl, hbs, hby, ha, hb, hff⟩ := openDraft14 (hval 0 _ _ rfl rfl) h0
 obtain ⟨xp, Np, cp, ps, rfl, hps, hpy⟩ := openBytes14 (hval 1 _ _ rfl rfl) h1
 obtain ⟨x, rfl, rfl, rfl, wx⟩ := open_int Tryz.underlying5 (hval 2 5 v2 rfl rfl) h2
 exact (bids_walk xb Nb cb bs a b c f xp Np cp ps x (by have := u8_ends wx; omega) W (sg_of_laid hL) hbs hby ha hb hff hps hpy).mono fun e W' ⟨he, hb⟩ => ⟨_, he, Close.law_post laidOut (by kernel_rfl) rfl (by kernel_rfl) Tryz.underlying4 hW' rfl hb⟩
theorem over : Rows.PriceBidsSaid :=
 OpenClaim.holds_of_wide 4 Tryz.f4 rfl rfl rfl rfl rfl rfl rfl ⟨rfl, rfl, rfl, rfl, rfl⟩ rfl rfl rfl rfl rfl (by kernel_rfl) Tryz.func4 (by kernel_rfl)
  (of_decide_eq_true (by kernel_rfl)) (by unfold Func.isWrapper; first | (rw [if_pos (by decide +kernel)]; kernel_rfl) | (rw [if_neg (by decide +kernel)]; exact ⟨rfl, rfl⟩))
  (fun os started H enc _ => lifted os started H enc)
theorem proved : Rows.PriceBidsCardSaid :=
 Claim7.holds_tied_plain_at .later [] [.data, .data, .data] true (true, "6cc6d720fdb0347ce8fdc63e5f08b6c919ec5a82abf33398c69b0ef9e3aa89d5") false
  over (fun _ h => by cases h) (by kernel_rfl) (fun _ h => by cases h) priceBids_row_tie rfl ⟨rfl, rfl⟩ (by kernel_rfl) rfl
  (fun f fn hf hfn => by
   obtain rfl : f = 4 := Option.some.inj ((show Tryz.prog.funcNamed "consign/consignlaw14.PriceBids" = some 4 by kernel_rfl).symm.trans hf) |>.symm
   obtain rfl : fn = Tryz.f4 := (Option.some.inj (Tryz.func4.symm.trans hfn)).symm
   exact ⟨by kernel_rfl, fun j t ht => by
    rw [Tryz.params4] at ht
    have hm : t ∈ [26, 22, 5] := by simpa using Array.mem_of_getElem? ht
    have hall : ([26, 22, 5].all fun u => !Tryz.prog.wantsStandIn u) = true := by kernel_rfl
    exact (show Tryz.prog.wantsStandIn t = false by simpa using List.all_eq_true.1 hall t hm)⟩)
  (by kernel_rfl)
#print axioms proved
end Go.Proofs.YteclpblfleakhaaGreatDoor.priceBids

import Derived.Test.YtlbghdiebjldjaaGreatDoorPkClose
import Derived.Test.YtlbghdiebjldjaaGreatDoorPkPlanTells

namespace Go.Proofs.YtlbghdiebjldjaaGreatDoor.Plan
open Go.RowKit Go.Sort Go.Proofs.YtlbghdiebjldjaaGreatDoor.Mem Go.Proofs.YtlbghdiebjldjaaGreatDoor.Route Go.Proofs.YtlbghdiebjldjaaGreatDoor.When Go.Proofs.YtlbghdiebjldjaaGreatDoor.Load Go.Proofs.YtlbghdiebjldjaaGreatDoor.Ins Go.Proofs.YtlbghdiebjldjaaGreatDoor.Feas
set_option linter.unusedVariables false
theorem rowCut {B : Nat} {W : World} {x : Option Addr} {N c m n : Nat} {rows : List (List Value)} (h : RowB B W (.slice x N c) m rows) (hn : n ≤ N) : RowB B W (.slice x n c) m (rows.take n) := by
 obtain ⟨x', cap, e, h1, h2, h0, h3⟩ := h
 cases e
 have hl : (rows.take n).length = n := by simp; omega
 refine ⟨x, c, by rw [hl], by omega, h2, fun e => ?_, fun j r hj => ?_⟩
 · have := h0 e
   rw [this.1] at hl ⊢
   exact ⟨by simp, this.2⟩
 · have hj' : rows[j]? = some r := by
    rw [List.getElem?_take] at hj
    split at hj
    · exact hj
    · cases hj
   exact h3 j r hj'
theorem plainCut {x : Option Addr} {N c n : Nat} (h : Plain (.slice x N c)) (hn : n ≤ N) : Plain (.slice x n c) := by
 rcases h with h | ⟨ad, m, k, h⟩
 · cases h
   obtain rfl : n = 0 := by omega
   exact .inl rfl
 · cases h
   exact .inr ⟨ad, n, c, rfl⟩
set_option maxRecDepth 100000 in
set_option maxHeartbeats 16000000 in
theorem new_walk (uf ut : Value) (vs0 : List Vh) (t0 : List Rq) (w : World) (hsg : Sg w) (hV : Vhs w.heap.size w uf vs0) (hT : Rqs w.heap.size w ut t0) (hpf : Plain uf) (hpt : Plain ut) :
 Calls Tryz.prog 4 #[uf, ut] w fun e w' => e = .returned (.bool true) ∧ Below w.heap.size w w' := by
 obtain ⟨xf, Nf, cf, rfl, hNf0, hfc1, hfc2, -⟩ := hV.opened
 obtain ⟨xt, Nt, ct, rfl, hNt0, htc1, htc2, -⟩ := hT.opened
 unfold maxLen at hfc2 htc2
 obtain ⟨n, hn⟩ : ∃ n, min Nf 30 = n := ⟨_, rfl⟩
 obtain ⟨m, hm⟩ : ∃ m, min Nt 30 = m := ⟨_, rfl⟩
 have hn1 : n ≤ Nf ∧ n ≤ 30 := by omega
 have hm1 : m ≤ Nt ∧ m ≤ 30 := by omega
 have hmi : min (Nf : Int) 30 = (n : Int) := by omega
 have hmj : min (Nt : Int) 30 = (m : Int) := by omega
 obtain ⟨vs, hvs⟩ : ∃ vs, vs0.take n = vs := ⟨_, rfl⟩
 obtain ⟨t, ht⟩ : ∃ t, t0.take m = t := ⟨_, rfl⟩
 have hVc : Hid (Vhs w.heap.size w (.slice xf n cf) vs) := Lib.hid (by rw [← hvs]; have := rowCut hV hn1.1; unfold Vhs; rw [List.map_take]; exact this)
 have hTc : Hid (Rqs w.heap.size w (.slice xt m ct) t) := Lib.hid (by rw [← ht]; have := rowCut hT hm1.1; unfold Rqs; rw [List.map_take]; exact this)
 have hp1 := Lib.hid (plainCut hpf hn1.1)
 have hp2 := Lib.hid (plainCut hpt hm1.1)
 have hlv : vs.length ≤ 30 := by rw [← hvs]; simp; omega
 have hlt : t.length ≤ 30 := by rw [← ht]; simp; omega
 have hg0 := Lib.hid hsg.pos
 have hsg' := Lib.hid hsg
 clear hV hT hpf hpt hvs ht hNf0 hNt0 hn hm hsg
 go_enter Tryz.func4, Tryz.ntmps4
 go_upto_region 1 with fail
 go_quiet (fail)
 have hbq := below_drewN (Below.refl w.heap.size w) nq
 obtain ⟨w1, hw1⟩ : ∃ w1, w.drewN nq = w1 := ⟨_, rfl⟩
 rw [hw1] at hbq ⊢
 have hsg1 := Lib.hid (hsg'.out.on hbq)
 have hB1 := Lib.hid hbq
 have hmem1 := Lib.hid (And.intro (hVc.out.on hbq) (hTc.out.on hbq))
 obtain ⟨q, hq⟩ : ∃ q, w.heap.size = q := ⟨_, rfl⟩
 have hq' := Lib.hid hq
 have hs1 : q ≤ w1.heap.size := by have := hbq.size; omega
 have hlv6 : vs.length ≤ 1000000 := by omega
 have hlt6 : t.length ≤ 1000000 := by omega
 have hN := New_any _ _ vs t w1 hmem1.out.1 hmem1.out.2 hp1.out hp2.out hlv6 hlt6
 clear hVc hTc hbq hw1 hsg' hfc1 hfc2 htc1 htc2 hn1 hm1 hmi hmj hq
 go_wp2_with fail
 refine hN.mono ?_
 clear hN
 rintro e w2 ⟨hN0, hN1, hb2⟩
 have hsg2 := Lib.hid (hsg1.out.on hb2)
 have hs2 : q ≤ w2.heap.size := Nat.le_trans hs1 hb2.size
 have hB2 : Hid (Below q w w2) := Lib.hid (by have := hB1.out; rw [hq'.out] at this; exact this.trans (hb2.mono hs1))
 have hmem2 := Lib.hid (And.intro (hmem1.out.1.on hb2) (hmem1.out.2.on hb2))
 have hR := refNew_any _ _ vs t w2 hmem2.out.1 hmem2.out.2 hp1.out hp2.out hlv6 hlt6
 have hg0q : Hid (1 < q ∧ 0 < q) := Lib.hid (by have := hg0.out; rw [hq'.out] at this; exact this)
 by_cases hE : newE vs t = 0
 · have hz := newE_zero hE
   have hOk : Hid (Ok (newS vs t)) := Lib.hid (new_Ok hz.1 (by omega) hz.2.2 hz.2.1)
   obtain ⟨p, rfl, G, hG, hGD⟩ := hN1 hE
   have hA2 : Hid (PlanAt G G w2 p (newS vs t)) := Lib.hid (hGD G (fun k h => h) (fun k h => .inl h))
   have hGq : Hid (∀ k, G k → q ≤ k ∧ k < w2.heap.size) := Lib.hid (fun k hk => ⟨Nat.le_trans hs1 (hG k hk).1, (hG k hk).2⟩)
   clear hN0 hN1 hG hGD hb2 hz
   go_wp2_with fail
   refine hR.mono ?_
   clear hR
   rintro e w3 ⟨-, hN, hb3⟩
   obtain ⟨pr, gr, vf', vt', rfl, hRn⟩ := hN hE
   have hgrM : w2.heap.size ≤ gr ∧ gr < w3.heap.size := World.ownsRow.lt hRn.own gr rfl
   have hT3 : Hid (Tell q w2.heap.size pr gr vf' vt' vs.length w w3 p) := Lib.hid (by
    refine ⟨⟨fun k => G k ∨ k = gr, G, _, newS vs t, ⟨hA2.out.grow hb3 ⟨fun k h => .inl h, fun k h => h.elim .inl (fun e => .inr (by omega)), fun k h => h.elim (fun hk => by have := (hGq.out k hk).2; have := hb3.size; omega) (fun e => by omega)⟩, hRn.ref (.inr rfl) (fun k h => h.elim (fun hk => .inr (hGq.out k hk).2) .inl), hOk.out, fun hk => by have := (hGq.out gr hk).2; omega⟩, fun k h => h.elim (fun hk => (hGq.out k hk).1) (fun e => by omega)⟩, hsg2.out.on hb3, hB2.out.trans (hb3.mono hs2)⟩)
   have hs3 : q ≤ w3.heap.size := Nat.le_trans hs2 hb3.size
   obtain ⟨lo, hlo⟩ : ∃ lo, w2.heap.size = lo := ⟨_, rfl⟩
   rw [hlo] at hT3
   obtain ⟨cap, hcap⟩ : ∃ cap, vs.length = cap := ⟨_, rfl⟩
   rw [hcap] at hT3
   obtain ⟨D, G9, us, S9, hTw, -⟩ := hT3.out.ex
   have hAl := alike_any w3 hTw
   clear hN hRn hgrM hb3 hA2 hGq hmem1 hmem2 hsg1 hsg2 hB1 hB2 hOk hlo hcap hlv hlt hlv6 hlt6 hTw hE hp1 hp2
   go_wp2_with fail
   refine hAl.mono ?_
   clear hAl
   rintro e w4 ⟨rfl, hb4⟩
   have hT4 := Lib.hid (hT3.out.on hb4 hs3)
   have hs4 : q ≤ w4.heap.size := Nat.le_trans hs3 hb4.size
   have hWk := works_any w4 hT4.out.sg
   clear hb4 hT3
   go_wp2_with fail
   refine hWk.mono ?_
   clear hWk
   rintro e w5 ⟨rfl, hb5⟩
   have hf5 := Lib.hid (hT4.out.b.trans (hb5.mono hs4))
   clear hb5 hT4
   go_wp2
   go_ret
   exact ⟨rfl, by rw [hq'.out]; exact hf5.out⟩
 · obtain rfl := hN0 hE
   clear hN0 hN1 hb2
   go_wp2_with fail
   refine hR.mono ?_
   clear hR
   rintro e w3 ⟨hN, -, hb3⟩
   obtain rfl := hN hE
   have hB3 := Lib.hid (hB2.out.trans (hb3.mono hs2))
   have hs3 : q ≤ w3.heap.size := Nat.le_trans hs2 hb3.size
   have hWk := works_any w3 (hsg2.out.on hb3)
   clear hN hb3 hmem1 hmem2 hsg1 hsg2 hB1 hB2 hlv hlt hlv6 hlt6 hE hp1 hp2
   go_wp2_with fail
   refine hWk.mono ?_
   clear hWk
   rintro e w5 ⟨rfl, hb5⟩
   have hf5 := Lib.hid (hB3.out.trans (hb5.mono hs3))
   clear hb5 hB3
   go_wp2
   go_ret
   exact ⟨rfl, by rw [hq'.out]; exact hf5.out⟩
end Go.Proofs.YtlbghdiebjldjaaGreatDoor.Plan
/-
  PlanNew, of which vehicles and requests there is a plan, and why there is none of others, is as the document says, returns true: for all lists (thirty at most). Its condition: package load's variable signs and package cheap's variable none are as the program's text lays them when the call begins, which the card ties to that text.
-/
namespace Go.Proofs.YtlbghdiebjldjaaGreatDoor.planNew
open Go.ChangeShapes Go.WideShapes Go.ChangeAt Go.RowKit Go.Sort
open Go.Proofs.YtlbghdiebjldjaaGreatDoor.Laid Go.Proofs.YtlbghdiebjldjaaGreatDoor.When Go.Proofs.YtlbghdiebjldjaaGreatDoor.Plan
set_option linter.unusedVariables false
set_option maxRecDepth 100000 in
theorem lifted (os : Os) (started : os.Started) (H : Type) (enc : TypeId × Value → H) :
 ReturnsInHanded {} Tryz.checked os 4 .any (fun w args => (Rows.planNewSpec.pre enc Tryz.prog Tryz.f4 [] false w args ∧ laidMetH Tryz.prog Rows.planNewRow.laid w) ∧ sizedMet enc Tryz.prog Tryz.f4 (OpenSpec.ofChange Rows.planNewSpec) false w args)
  (Rows.planNewSpec.post enc Tryz.prog Tryz.f4 false true false false) := by
 refine returnsInHanded_of_change_and (C := Tryz.checked) (X := fun w _ => laidMetH Tryz.prog Rows.planNewRow.laid w) (fun _ _ _ hh h => h.of_heap hh) own started (by kernel_rfl) Tryz.func4
  (ChangeSpec.witness_shaped (enc := enc) (C := Tryz.checked) (os := os) (X := fun w _ => laidMetH Tryz.prog Rows.planNewRow.laid w) false (World.doorLaid Tryz.prog 400 os) #[.slice none 0 0, .slice none 0 0] 8 rfl (World.shaped_of_RefB (by kernel_rfl) (by kernel_rfl)) (by kernel_rfl) (by kernel_rfl) (by kernel_rfl) (door_met os _)) ?_
 intro W base args ds gs before hval0 hW _ _ hL _
 have hval : ∀ (j : Nat) t v, Tryz.f4.params[j]? = some t → args[j]? = some v → Value.okWide Tryz.prog W .any base t v := hval0
 have hW' := hW
 obtain ⟨p, q, hA0, hV, rfl, hfz, hnd⟩ := hW
 have hA : DataW.TrodAll enc Tryz.prog W 0 (fun _ => true) true Tryz.f4.params.toList args.toList ds p := hA0
 rw [Tryz.params4] at hA hval
 obtain ⟨v0, vs0, d0, ds0, p0, q0, hargs, rfl, rfl, h0, r0⟩ := trodAll_cons hA
 obtain ⟨v1, vs1, d1, ds1, p1, q1, rfl, rfl, rfl, h1, r1⟩ := trodAll_cons r0
 obtain ⟨rfl, rfl, rfl⟩ := trodAll_nil r1
 obtain rfl : args = #[v0, v1] := by cases args; simp_all
 obtain ⟨rfl, rfl⟩ := trodVars_none hV
 obtain ⟨vs, hvs⟩ := openVehs (hval 0 _ _ rfl rfl) h0
 obtain ⟨t, htab⟩ := openRqs (hval 1 _ _ rfl rfl) h1
 exact (new_walk v0 v1 vs t W (sg_of_laid hL) hvs htab (rowPlain hvs) (rowPlain htab)).mono fun e W' ⟨he, hb⟩ => ⟨_, he, Close.law_post laidOut (by kernel_rfl) rfl (by kernel_rfl) Tryz.underlying4 hW' rfl hb⟩
theorem over : Rows.PlanNewSaid :=
 OpenClaim.holds_of_wide 4 Tryz.f4 rfl rfl rfl rfl rfl rfl rfl ⟨rfl, rfl, rfl, rfl, rfl⟩ rfl rfl rfl rfl rfl (by kernel_rfl) Tryz.func4 (by kernel_rfl)
  (of_decide_eq_true (by kernel_rfl)) (by unfold Func.isWrapper; first | (rw [if_pos (by decide +kernel)]; kernel_rfl) | (rw [if_neg (by decide +kernel)]; exact ⟨rfl, rfl⟩))
  (fun os started H enc _ => lifted os started H enc)
theorem proved : Rows.PlanNewCardSaid :=
 Claim7.holds_tied_plain_at .later [] [.data, .data] true (true, "e668552edf091549f3a33a44068f668d0797b8d5ae29daa3679ffd99e7045ff1") true
  over (fun _ h => by cases h) (by kernel_rfl) (fun _ h => by cases h) planNew_row_tie rfl ⟨rfl, rfl⟩ (by kernel_rfl) rfl
  (fun f fn hf hfn => by
   obtain rfl : f = 4 := Option.some.inj ((show Tryz.prog.funcNamed "consign/consignlaw13.PlanNew" = some 4 by kernel_rfl).symm.trans hf) |>.symm
   obtain rfl : fn = Tryz.f4 := (Option.some.inj (Tryz.func4.symm.trans hfn)).symm
   exact ⟨by kernel_rfl, fun j t ht => by
    rw [Tryz.params4] at ht
    have hm : t ∈ [28, 29] := by simpa using Array.mem_of_getElem? ht
    have hall : ([28, 29].all fun u => !Tryz.prog.wantsStandIn u) = true := by kernel_rfl
    exact (show Tryz.prog.wantsStandIn t = false by simpa using List.all_eq_true.1 hall t hm)⟩)
  (by kernel_rfl)
#print axioms proved
end Go.Proofs.YtlbghdiebjldjaaGreatDoor.planNew

import Derived.Test.YtlbghdiebjldjaaGreatDoorPkPlanWorks

namespace Go.Proofs.YtlbghdiebjldjaaGreatDoor.Plan
open Go.RowKit Go.Sort Go.Proofs.YtlbghdiebjldjaaGreatDoor.Mem Go.Proofs.YtlbghdiebjldjaaGreatDoor.Route Go.Proofs.YtlbghdiebjldjaaGreatDoor.When Go.Proofs.YtlbghdiebjldjaaGreatDoor.Load Go.Proofs.YtlbghdiebjldjaaGreatDoor.Ins Go.Proofs.YtlbghdiebjldjaaGreatDoor.Feas
set_option linter.unusedVariables false
theorem Two.copy {D D' G G2 : Nat → Prop} {lo : Nat} {W W' : World} {p p2 pr gr : Nat} {vf vt : Value} {cap : Nat} {us : List Value} {S : St} (h : Two D G lo W p pr gr vf vt cap us S) (hb : Below W.heap.size W W') (ha : PlanAt D' G2 W' p2 S) (hg : Grew D D' W W') (hG : ∀ k, G2 k → W.heap.size ≤ k) : Two D' G2 lo W' p2 pr gr vf vt cap us S :=
 ⟨ha, h.b.went (E := fun _ => False) (Chg.of_below hb) (fun k he => he.elim) hg, h.ok, fun hk => by have := hG gr hk; have := h.b.grIn; omega⟩
structure Tell (q lo pr gr : Nat) (vf vt : Value) (cap : Nat) (w W : World) (p : Nat) : Prop where
 ex : ∃ D G us S, Two D G lo W p pr gr vf vt cap us S ∧ (∀ k, D k → q ≤ k)
 sg : Sg W
 b : Below q w W
theorem Tell.on {q lo pr gr : Nat} {vf vt : Value} {cap : Nat} {w W W' : World} {p : Nat} (h : Tell q lo pr gr vf vt cap w W p) (hb : Below W.heap.size W W') (hq : q ≤ W.heap.size) : Tell q lo pr gr vf vt cap w W' p := by
 obtain ⟨D, G, us, S, h1, h2⟩ := h.ex
 exact ⟨⟨D, G, us, S, h1.on hb, h2⟩, h.sg.on hb, h.b.trans (hb.mono hq)⟩
theorem Tell.next {q lo pr gr : Nat} {vf vt : Value} {cap : Nat} {w W W' : World} {p : Nat} {D G : Nat → Prop} {S' : St} (hsg : Sg W) (hb : Below q w W) (hg0 : 1 < q ∧ 0 < q) (hq : q ≤ W.heap.size) (hD : ∀ k, D k → q ≤ k) (h : Next D G lo W W' p pr gr vf vt cap S') : Tell q lo pr gr vf vt cap w W' p ∧ q ≤ W'.heap.size := by
 obtain ⟨D', G', us', h1, h2, h3⟩ := h
 have hbb := h3.below hq hD
 exact ⟨⟨⟨D', G', us', S', h1, fun k hk => (h2.new k hk).elim (hD k) (fun hl => Nat.le_trans hq hl)⟩, hsg.keep hbb hg0, hb.trans hbb⟩, Nat.le_trans hq hbb.size⟩
set_option maxRecDepth 100000 in
set_option maxHeartbeats 16000000 in
theorem tells_any (xb : Option Addr) (Nb cb : Nat) (bs : List Int) (a b c f : Int) (ua : Value) (acts : List (Int × Int)) (w : World) (hsg : Sg w) (hrow : RowB w.heap.size w (.slice xb Nb cb) 1 (bs.map byV)) (hby : ∀ x ∈ bs, 0 ≤ x ∧ x < 256) (ha : 0 ≤ a ∧ a < 256) (hb : 0 ≤ b ∧ b < 256) (hf : 0 ≤ f ∧ f < 256)
 (hacts : Acts w.heap.size w ua acts) (hac : ∀ x ∈ acts, (0 ≤ x.1 ∧ x.1 < 256) ∧ 0 ≤ x.2 ∧ x.2 < 256) :
 Calls Tryz.prog 3 #[.agg #[.slice xb Nb cb, .int .u8 a, .int .u8 b, .int .i64 c, .int .u8 f], ua] w fun e w' => e = .returned (.bool true) ∧ Below w.heap.size w w' := by
 obtain ⟨q, hq⟩ : ∃ q, w.heap.size = q := ⟨_, rfl⟩
 have hg0 := hsg.pos
 rw [hq] at hg0
 obtain ⟨w0, hw0⟩ : ∃ w0, w.alloc (.cells #[.slice xb Nb cb, .int .u8 a, .int .u8 b, .int .i64 c, .int .u8 f] 26) = w0 := ⟨_, rfl⟩
 have hs0 : w0.heap.size = q + 1 := by rw [← hw0]; simp [hq]
 have hb0 : Below q w w0 := by rw [← hw0]; exact (Below.refl _ _).alloc (by omega) _
 have hd0 : At w0 q 26 #[.slice xb Nb cb, .int .u8 a, .int .u8 b, .int .i64 c, .int .u8 f] := by rw [← hw0]; exact At.new_ _ _ _ hq.symm
 have hsg0 := hsg.on (by rw [hq]; exact hb0)
 rw [hq] at hrow hacts
 have hP := parts13_any xb Nb cb bs a b c f w0 ((hrow.keep hb0 (Nat.le_refl _)).more (by omega)) hby ha hb hf
 obtain ⟨xa, Na, ca, rfl, hNa0, hca1, hca2⟩ := hacts.opened
 have hacts' := Lib.hid hacts
 have hac' := Lib.hid hac
 have hNa := Lib.hid hNa0
 unfold maxLen at hca2
 have c0 := hd0.cell 0
 have c1 := hd0.cell 1
 have c2 := hd0.cell 2
 have c3 := hd0.cell 3
 have c4 := hd0.cell 4
 simp at c0 c1 c2 c3 c4
 have hw0' := Lib.hid hw0
 have hq' := Lib.hid hq
 clear hw0 hq hsg hrow hby ha hb hf hacts hac hNa0 hd0
 go_enter Tryz.func3, Tryz.ntmps3
 go_upto_region 1 with fail
 try simp only [hq'.out]
 try rw [hw0'.out]
 go_wp2_with fail
 refine hP.mono ?_
 clear hP c0 c1 c2 c3 c4
 rintro e w1 ⟨⟨uf, ut, rfl, vs, t, hPa⟩, hb1⟩
 have hsg1 := Lib.hid (hsg0.on hb1)
 have hB1 := Lib.hid (hb0.trans (hb1.mono (by omega : q ≤ w0.heap.size)))
 have hs1 : q ≤ w1.heap.size := by have := hB1.out.size; have := hb1.size; omega
 have hE0 := newE_drawn hPa
 have hOk := Lib.hid (new_drawn hPa)
 have hmem := hPa.mem
 have hpl1 := Lib.hid (own_plain hPa.ovs)
 have hpl2 := Lib.hid (own_plain hPa.ot)
 have hlv : vs.length ≤ 1000000 := by have := hPa.cnt; omega
 have hlt : t.length ≤ 1000000 := by have := hPa.tl; omega
 have hN := New_any uf ut vs t w1 hmem.1 hmem.2 hpl1.out hpl2.out hlv hlt
 have hmem' := Lib.hid hmem
 rw [hE0] at hN
 obtain ⟨xf, cf, rfl, -, -⟩ := owns_slice hPa.ovs
 obtain ⟨xt, ct, rfl, -, -⟩ := owns_slice hPa.ot
 have hE0' := Lib.hid hE0
 clear hb1 hPa hmem hsg0 hb0 hs0 hE0
 go_wp2_with fail
 refine hN.mono ?_
 clear hN
 rintro e w2 ⟨-, hN, hb2⟩
 obtain ⟨p, rfl, G, hG, hGD⟩ := hN (by trivial)
 have hB2 := Lib.hid (hB1.out.trans (hb2.mono hs1))
 have hsg2 := Lib.hid (hsg1.out.on hb2)
 have hs2 : q ≤ w2.heap.size := Nat.le_trans hs1 hb2.size
 have hmem2 := Lib.hid (And.intro (hmem'.out.1.on hb2) (hmem'.out.2.on hb2))
 have hA2 : Hid (PlanAt G G w2 p (newS vs t)) := Lib.hid (hGD G (fun k h => h) (fun k h => .inl h))
 have hGq : Hid (∀ k, G k → q ≤ k ∧ k < w2.heap.size) := Lib.hid (fun k hk => ⟨Nat.le_trans hs1 (hG k hk).1, (hG k hk).2⟩)
 have hR := refNew_any _ _ vs t w2 hmem2.out.1 hmem2.out.2 hpl1.out hpl2.out hlv hlt
 rw [hE0'.out] at hR
 clear hN hG hGD hb2
 go_wp2_with fail
 refine hR.mono ?_
 clear hR
 rintro e w3 ⟨-, hN, hb3⟩
 obtain ⟨pr, gr, vf', vt', rfl, hRn⟩ := hN (by trivial)
 have hgrM : w2.heap.size ≤ gr ∧ gr < w3.heap.size := World.ownsRow.lt hRn.own gr rfl
 have hT3 : Hid (Tell q w2.heap.size pr gr vf' vt' vs.length w w3 p) := Lib.hid (by
  refine ⟨⟨fun k => G k ∨ k = gr, G, _, newS vs t, ⟨hA2.out.grow hb3 ⟨fun k h => .inl h, fun k h => h.elim .inl (fun e => .inr (by omega)), fun k h => h.elim (fun hk => by have := (hGq.out k hk).2; have := hb3.size; omega) (fun e => by omega)⟩, hRn.ref (.inr rfl) (fun k h => h.elim (fun hk => .inr (hGq.out k hk).2) .inl), hOk.out, fun hk => by have := (hGq.out gr hk).2; omega⟩, fun k h => h.elim (fun hk => (hGq.out k hk).1) (fun e => by omega)⟩, hsg2.out.on hb3, hB2.out.trans (hb3.mono hs2)⟩)
 have hs3 : q ≤ w3.heap.size := Nat.le_trans hs2 hb3.size
 obtain ⟨lo, hlo⟩ : ∃ lo, w2.heap.size = lo := ⟨_, rfl⟩
 rw [hlo] at hT3
 obtain ⟨cap, hcap⟩ : ∃ cap, vs.length = cap := ⟨_, rfl⟩
 rw [hcap] at hT3
 have hWk := works_any w3 hT3.out.sg
 clear hN hRn hgrM hb3 hA2 hGq hmem2 hsg2 hB2 hmem' hpl1 hpl2 hsg1 hB1 hOk hlo hlv hlt hE0'
 go_wp2_with fail
 refine hWk.mono ?_
 clear hWk
 rintro e w4 ⟨rfl, hb4⟩
 have hT4 := Lib.hid (hT3.out.on hb4 hs3)
 have hs4 : q ≤ w4.heap.size := Nat.le_trans hs3 hb4.size
 clear hb4 hT3
 go_wp2
 go_loopw [7, 11] (fun pp i wr => ∃ (k p : Nat), k ≤ Na ∧ k ≤ 30 ∧ i = .int .i64 k ∧ pp = .pointer (some ⟨p, 0, none⟩) ∧ Tell q lo pr gr vf' vt' cap w wr p ∧ q ≤ wr.heap.size)
  (fun _ i _ => Na - (intOf i).toNat)
 case atStart => exact ⟨0, p, Nat.zero_le _, by omega, rfl, rfl, hT4.out, hs4⟩
 case round =>
  obtain ⟨k, p', hk, hk30, rfl, rfl, hT, hsw⟩ := hrel
  by_cases hlt : k < Na ∧ k < 30
  case neg =>
   have hdone : Hid (∃ D G us S, Two D G lo wr p' pr gr vf' vt' cap us S) := Lib.hid (by obtain ⟨D, G, us, S, h1, _⟩ := hT.ex; exact ⟨D, G, us, S, h1⟩)
   obtain ⟨D, G9, us, S, h2⟩ := hdone.out
   have hAl := alike_any wr h2
   have hB := Lib.hid hT.b
   clear hT h2
   by_cases hka : k < Na
   · have hki : (k : Int) < (Na : Int) := by omega
     have hkn : ¬ ((k : Int) < 30) := by omega
     go_wp2_with fail
     refine hAl.mono ?_
     clear hAl
     rintro e w5 ⟨rfl, hb5⟩
     have hf5 := Lib.hid (hB.out.trans (hb5.mono hsw))
     clear hb5
     go_wp2
     go_ret
     exact ⟨rfl, by rw [hq'.out]; exact hf5.out⟩
   · have hki : ¬ ((k : Int) < (Na : Int)) := by omega
     go_wp2_with fail
     refine hAl.mono ?_
     clear hAl
     rintro e w5 ⟨rfl, hb5⟩
     have hf5 := Lib.hid (hB.out.trans (hb5.mono hsw))
     clear hb5
     go_wp2
     go_ret
     exact ⟨rfl, by rw [hq'.out]; exact hf5.out⟩
  obtain ⟨hka, hk3⟩ := hlt
  have hki : (k : Int) < (Na : Int) := by omega
  have hk3i : (k : Int) < 30 := by omega
  obtain ⟨⟨x, y⟩, hxy⟩ : ∃ s, acts[k]? = some s := ⟨acts[k]'(by rw [hNa.out]; exact hka), List.getElem?_eq_getElem _⟩
  obtain ⟨hxb, hyb⟩ := hac'.out _ (List.mem_of_getElem? hxy)
  have hcells : Hid (∀ W, Below q w W → ∃ g o, xa = some ⟨g, o, none⟩ ∧ g < W.heap.size ∧ W.cell? ⟨g, o + k * 2, none⟩ = some (.int .u8 x) ∧ W.cell? ⟨g, o + k * 2 + 1, none⟩ = some (.int .u8 y)) := Lib.hid (fun W hW => by
   obtain ⟨g, o, e, hg, d0, d1⟩ := Acts.at (RowB.keep hacts'.out hW (Nat.le_refl _)) hxy
   have hz : q ≤ W.heap.size := by have := hW.size; rw [hq'.out] at this; exact this
   exact ⟨g, o, e, by omega, d0, d1⟩)
  obtain ⟨ga, oa, rfl, hga, d0, d1⟩ := hcells.out wr hT.b
  simp only at hxb hyb
  obtain ⟨hx0, hx1⟩ := hxb
  have hT' := Lib.hid hT
  have hkN := Lib.hid (And.intro hka hk3)
  clear hxy hT hka hk3
  have fin : ∀ (p2 : Nat) (wz : World), Tell q lo pr gr vf' vt' cap w wz p2 → q ≤ wz.heap.size → True := fun _ _ _ _ => trivial
  clear fin
  by_cases hx3 : x % 4 = 3
  · obtain ⟨D, G9, us, S, hTw, hDq⟩ := hT'.out.ex
    have hCp := Copy_any wr hTw.a hTw.ok
    have hTw' := Lib.hid hTw
    have hDq' := Lib.hid hDq
    clear hTw hDq
    go_wp2_with fail
    refine hCp.mono ?_
    clear hCp d0 d1
    rintro e w5 ⟨⟨p2, rfl, D2, G2, hPA, hGr, hG2⟩, hb5⟩
    have hT5 : Hid (Tell q lo pr gr vf' vt' cap w w5 p2) := Lib.hid ⟨⟨D2, G2, us, S, hTw'.out.copy hb5 hPA hGr hG2, fun k hk => (hGr.new k hk).elim (hDq'.out k) (fun hl => Nat.le_trans hsw hl)⟩, hT'.out.sg.on hb5, hT'.out.b.trans (hb5.mono hsw)⟩
    have hs5 : q ≤ w5.heap.size := Nat.le_trans hsw hb5.size
    clear hPA hGr hG2 hb5 hTw' hDq'
    obtain ⟨g8, o8, e8, hg8, d0, d1⟩ := hcells.out w5 hT5.out.b
    cases e8
    obtain ⟨D5, G5, us5, S5, hTw, hDq⟩ := hT5.out.ex
    have hDo := does_any x y ⟨hx0, hx1⟩ hyb w5 hTw hT5.out.sg
    have hDq' := Lib.hid hDq
    clear hTw hDq
    go_wp2_with fail
    refine hDo.mono ?_
    clear hDo d0 d1
    rintro e w6 ⟨rfl, hNx⟩
    have hT6 := Lib.hid (Tell.next hT5.out.sg hT5.out.b hg0 hs5 hDq'.out hNx)
    clear hNx hDq'
    have hs6 : q ≤ w6.heap.size := hT6.out.2
    obtain ⟨D6, G6, us6, S6, hTw, -⟩ := hT6.out.1.ex
    have hAl := alike_any w6 hTw
    clear hTw
    go_wp2_with fail
    refine hAl.mono ?_
    clear hAl
    rintro e w7 ⟨rfl, hb7⟩
    have hT7 := Lib.hid (hT6.out.1.on hb7 hs6)
    have hs7 : q ≤ w7.heap.size := Nat.le_trans hs6 hb7.size
    clear hb7
    go_wp2
    go_roundw
    case rel => exact ⟨k + 1, p2, hkN.out.1, hkN.out.2, by go_num, rfl, hT7.out, hs7⟩
    case measure => have := hkN.out.1; simp [intOf]; omega
  · have hx3' : (x % 4 == 3) = false := by simpa using hx3
    obtain ⟨D5, G5, us5, S5, hTw, hDq⟩ := hT'.out.ex
    have hDo := does_any x y ⟨hx0, hx1⟩ hyb wr hTw hT'.out.sg
    have hDq' := Lib.hid hDq
    clear hTw hDq
    go_wp2_with fail
    refine hDo.mono ?_
    clear hDo d0 d1
    rintro e w6 ⟨rfl, hNx⟩
    have hT6 := Lib.hid (Tell.next hT'.out.sg hT'.out.b hg0 hsw hDq'.out hNx)
    clear hNx hDq'
    have hs6 : q ≤ w6.heap.size := hT6.out.2
    obtain ⟨D6, G6, us6, S6, hTw, -⟩ := hT6.out.1.ex
    have hAl := alike_any w6 hTw
    clear hTw
    go_wp2_with fail
    refine hAl.mono ?_
    clear hAl
    rintro e w7 ⟨rfl, hb7⟩
    have hT7 := Lib.hid (hT6.out.1.on hb7 hs6)
    have hs7 : q ≤ w7.heap.size := Nat.le_trans hs6 hb7.size
    clear hb7
    go_wp2
    go_roundw
    case rel => exact ⟨k + 1, p', hkN.out.1, hkN.out.2, by go_num, rfl, hT7.out, hs7⟩
    case measure => have := hkN.out.1; simp [intOf]; omega
end Go.Proofs.YtlbghdiebjldjaaGreatDoor.Plan

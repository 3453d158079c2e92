import Derived.Test.YtlbghdiebjldjaaGreatDoorPkPlanHolds
import Derived.Test.YtlbghdiebjldjaaGreatDoorPkClose
import Derived.Test.YtlbghdiebjldjaaGreatDoorPkPlanTells

namespace Go.Proofs.YtlbghdiebjldjaaGreatDoor.Plan
open Go.RowKit Go.Proofs.YtlbghdiebjldjaaGreatDoor.Mem Go.Proofs.YtlbghdiebjldjaaGreatDoor.Route Go.Proofs.YtlbghdiebjldjaaGreatDoor.When Go.Proofs.YtlbghdiebjldjaaGreatDoor.Load Go.Proofs.YtlbghdiebjldjaaGreatDoor.Ins
set_option linter.unusedVariables false
def Shp (W W' : World) : Prop := ∀ g t cs, At W g t cs → ∃ cs' : Array Value, At W' g t cs' ∧ cs'.size = cs.size
theorem Shp.refl (W : World) : Shp W W := fun g t cs h => ⟨cs, h, rfl⟩
theorem Shp.trans {A B C : World} (h : Shp A B) (k : Shp B C) : Shp A C := fun g t cs ha => by
 obtain ⟨c1, h1, e1⟩ := h g t cs ha
 obtain ⟨c2, h2, e2⟩ := k g t c1 h1
 exact ⟨c2, h2, e2.trans e1⟩
theorem Shp.set (W : World) (g i : Nat) (x : Value) : Shp W (W.setCell ⟨g, i, none⟩ x) := fun g' t cs h => by
 by_cases e : g' = g
 · subst e
   exact ⟨_, h.put i x, by simp⟩
 · exact ⟨cs, (Below.heap_setCell W ⟨g, i, none⟩ x g' (by exact e)).trans h, rfl⟩
theorem Shp.below {W W' : World} (hb : Below W.heap.size W W') : Shp W W' := fun g t cs h => ⟨cs, h.keep hb h.inside, rfl⟩
structure Wrt (E : Nat → Prop) (W W' : World) : Prop where
 c : Chg E W W'
 s : Shp W W'
theorem Wrt.refl (E : Nat → Prop) (W : World) : Wrt E W W := ⟨Chg.refl _ _, Shp.refl _⟩
theorem Wrt.trans {E : Nat → Prop} {A B C : World} (h : Wrt E A B) (k : Wrt E B C) : Wrt E A C := ⟨h.c.trans k.c, h.s.trans k.s⟩
theorem Wrt.set {E : Nat → Prop} {A B : World} (h : Wrt E A B) {g : Nat} (hg : E g) (i : Nat) (x : Value) : Wrt E A (B.setCell ⟨g, i, none⟩ x) := ⟨h.c.trans (Chg.set B hg i x), h.s.trans (Shp.set B g i x)⟩
def Wd (M H : Nat) (T : TypeId) (s : Nat) (W : World) (v : Value) (n : Nat) : Prop :=
 ∃ x cap, v = .slice x n cap ∧ n ≤ cap ∧ cap ≤ maxLen ∧ (0 < n → ∃ (g : Nat) (cs : Array Value), x = some ⟨g, 0, none⟩ ∧ M ≤ g ∧ g < H ∧ At W g T cs ∧ n * s ≤ cs.size)
theorem Wd.shp {M H : Nat} {T : TypeId} {s : Nat} {W W' : World} {v : Value} {n : Nat} (h : Wd M H T s W v n) (hs : Shp W W') : Wd M H T s W' v n := by
 obtain ⟨x, cap, e, h1, h2, h3⟩ := h
 refine ⟨x, cap, e, h1, h2, fun h0 => ?_⟩
 obtain ⟨g, cs, e1, h4, h5, h6, h7⟩ := h3 h0
 obtain ⟨cs', h8, h9⟩ := hs g T cs h6
 exact ⟨g, cs', e1, h4, h5, h8, by omega⟩
theorem Wd.of_owns {M : Nat} {T : TypeId} {s : Nat} {W : World} {v : Value} {n : Nat} {xs : List Value} (h : W.ownsRow M T s v n xs) : Wd M W.heap.size T s W v n := by
 obtain ⟨hl, ⟨rfl, h0⟩ | ⟨g, cap, cur, rfl, hb, hg, hc1, hc2, hs, ht⟩⟩ := h
 · obtain rfl : n = 0 := by first | exact h0 | exact h0.1 | (simp_all)
   exact ⟨none, 0, rfl, Nat.le_refl _, by unfold maxLen; omega, fun h => absurd h (by omega)⟩
 · refine ⟨_, cap, rfl, hc1, hc2, fun _ => ⟨g, cur, rfl, hb, (Array.getElem?_eq_some_iff.1 hg).1, hg, ?_⟩⟩
   have : n * s ≤ cap * s := Nat.mul_le_mul_right s hc1
   omega
theorem Wd.at_ {M H : Nat} {T : TypeId} {s : Nat} {W : World} {x : Option Addr} {n cap : Nat} (h : Wd M H T s W (.slice x n cap) n) {j : Nat} (hj : j < n) : ∃ (g : Nat) (cs : Array Value), x = some ⟨g, 0, none⟩ ∧ (M ≤ g ∧ g < H) ∧ At W g T cs ∧ j * s + s ≤ cs.size := by
 obtain ⟨x', cap', e, h1, h2, h3⟩ := h
 cases e
 obtain ⟨g, cs, e1, h4, h5, h6, h7⟩ := h3 (by omega)
 refine ⟨g, cs, e1, ⟨h4, h5⟩, h6, Nat.le_trans ?_ h7⟩
 rw [← Nat.succ_mul]
 exact Nat.mul_le_mul_right s hj
theorem at_some {W : World} {g : Nat} {T : TypeId} {cs : Array Value} (h : At W g T cs) {i : Nat} (hi : i < cs.size) : ∃ x, W.cell? ⟨g, i, none⟩ = some x := ⟨cs[i], by rw [h.cell]; exact Array.getElem?_eq_getElem hi⟩
theorem owns_off {W : World} {b s n : Nat} {e : TypeId} {v : Value} {xs : List Value} (h : W.ownsRow b e s v n xs) {E : Nat → Prop} (hE : ∀ k, E k → k < b) : Off E v := fun g hg he => by
 have := owns_row h g hg
 have := hE g he
 omega
theorem RwsO.chg {M : Nat} {E : Nat → Prop} {W W' : World} {v : Value} {us : List Value} {ls : List (List (Int × Int))} (h : RwsO M W v us ls) (hc : Chg E W W') (hE : ∀ k, E k → k < M) : RwsO M W' v us ls :=
 ⟨hc.owns h.1 (owns_off h.1 hE), fun i u l hu hl => hc.owns (h.2 i u l hu hl) (owns_off (h.2 i u l hu hl) hE)⟩
theorem RwsO.on {M : Nat} {W W' : World} {v : Value} {us : List Value} {ls : List (List (Int × Int))} (h : RwsO M W v us ls) (hb : Below W.heap.size W W') : RwsO M W' v us ls := h.chg (E := fun _ => False) (Chg.of_below hb) (fun k hk => hk.elim)
theorem Wd.of2 {M : Nat} {T : TypeId} {s : Nat} {W W' : World} {v : Value} {n : Nat} {xs : List Value} (h : W.ownsRow M T s v n xs) (h' : W'.ownsRow M T s v n xs) : Wd M W.heap.size T s W' v n := by
 obtain ⟨x, cap, e, h1, h2, h3⟩ := Wd.of_owns h
 obtain ⟨x', cap', e', h1', h2', h3'⟩ := Wd.of_owns h'
 rw [e] at e'
 cases e'
 refine ⟨x, cap, e, h1, h2, fun h0 => ?_⟩
 obtain ⟨g, cs, e1, h4, h5, h6, h7⟩ := h3 h0
 obtain ⟨g', cs', e1', h4', h5', h6', h7'⟩ := h3' h0
 rw [e1] at e1'
 cases e1'
 exact ⟨g, cs', e1, h4, h5, h6', h7'⟩
theorem own_set {W : World} {b s n : Nat} {T : TypeId} {v : Value} {xs : List Value} (h : W.ownsRow b T s v n xs) {g : Nat} (hg : v.ownBlock ≠ some g) (i : Nat) (x : Value) : (W.setCell ⟨g, i, none⟩ x).ownsRow b T s v n xs :=
 (Chg.set (D := fun k => k = g) W rfl i x).owns h (fun g' e he => hg (by rw [e, he]))
theorem outer_cell {W : World} {M N c k : Nat} {T : TypeId} {g : Nat} {us : List Value} {u : Value} (h : W.ownsRow M T 1 (.slice (some ⟨g, 0, none⟩) N c) N us) (hk : us[k]? = some u) : W.cell? ⟨g, k, none⟩ = some u ∧ g < W.heap.size := by
 have hr : RowB W.heap.size W (.slice (some ⟨g, 0, none⟩) N c) 1 (us.map fun u => [u]) := RowB.of_owns (by rwa [show us = (us.map fun u => [u]).flatten by simp [List.flatten_eq_flatMap, List.flatMap_map]] at h) (by have := h.1; simp; omega) (fun r hr => by obtain ⟨s, _, rfl⟩ := List.mem_map.1 hr; rfl) (Nat.le_refl _)
 obtain ⟨g', o, e, hg, hc⟩ := RowB.row hr (j := k) (r := [u]) (by rw [List.getElem?_map, hk]; rfl)
 cases e
 have := hc 0 u rfl
 simp at this
 exact ⟨this, hg⟩
end Go.Proofs.YtlbghdiebjldjaaGreatDoor.Plan
namespace Go.Proofs.YtlbghdiebjldjaaGreatDoor.Plan
open Go.RowKit Go.Sort Go.Proofs.YtlbghdiebjldjaaGreatDoor.Mem Go.Proofs.YtlbghdiebjldjaaGreatDoor.Route Go.Proofs.YtlbghdiebjldjaaGreatDoor.When Go.Proofs.YtlbghdiebjldjaaGreatDoor.Load Go.Proofs.YtlbghdiebjldjaaGreatDoor.Ins Go.Proofs.YtlbghdiebjldjaaGreatDoor.Feas
set_option linter.unusedVariables false
set_option maxRecDepth 100000 in
set_option maxHeartbeats 16000000 in
theorem own_walk (xb : Option Addr) (Nb cb : Nat) (bs : List Int) (a b c f : Int) (ua : Value) (acts : List (Int × Int)) (w : World) (hsg : Sg w) (hrow : RowB w.heap.size w (.slice xb Nb cb) 1 (bs.map byV)) (hby : ∀ x ∈ bs, 0 ≤ x ∧ x < 256) (ha : 0 ≤ a ∧ a < 256) (hb : 0 ≤ b ∧ b < 256) (hf : 0 ≤ f ∧ f < 256)
 (hacts : Acts w.heap.size w ua acts) (hac : ∀ x ∈ acts, (0 ≤ x.1 ∧ x.1 < 256) ∧ 0 ≤ x.2 ∧ x.2 < 256) :
 Calls Tryz.prog 8 #[.agg #[.slice xb Nb cb, .int .u8 a, .int .u8 b, .int .i64 c, .int .u8 f], ua] w fun e w' => e = .returned (.bool true) ∧ Below w.heap.size w w' := by
 obtain ⟨q, hq⟩ : ∃ q, w.heap.size = q := ⟨_, rfl⟩
 have hg0 := hsg.pos
 rw [hq] at hg0
 obtain ⟨w0, hw0⟩ : ∃ w0, w.alloc (.cells #[.slice xb Nb cb, .int .u8 a, .int .u8 b, .int .i64 c, .int .u8 f] 26) = w0 := ⟨_, rfl⟩
 have hs0 : w0.heap.size = q + 1 := by rw [← hw0]; simp [hq]
 have hb0 : Below q w w0 := by rw [← hw0]; exact (Below.refl _ _).alloc (by omega) _
 have hd0 : At w0 q 26 #[.slice xb Nb cb, .int .u8 a, .int .u8 b, .int .i64 c, .int .u8 f] := by rw [← hw0]; exact At.new_ _ _ _ hq.symm
 have hsg0 := hsg.on (by rw [hq]; exact hb0)
 rw [hq] at hrow hacts
 have hrow0 : Hid (RowB w0.heap.size w0 (.slice xb Nb cb) 1 (bs.map byV)) := Lib.hid ((hrow.keep hb0 (Nat.le_refl _)).more (by omega))
 have hWk := works_any w0 hsg0
 obtain ⟨xa, Na, ca, rfl, hNa0, hca1, hca2⟩ := hacts.opened
 have hacts' := Lib.hid hacts
 have hac' := Lib.hid hac
 have hNa := Lib.hid hNa0
 unfold maxLen at hca2
 have hw0' := Lib.hid hw0
 have hq' := Lib.hid hq
 have hd0' := Lib.hid hd0
 have hsg0' := Lib.hid hsg0
 have hby' := Lib.hid hby
 have hg0' := Lib.hid hg0
 have hb0' := Lib.hid hb0
 have hs0' : Hid (w0.heap.size = q + 1) := Lib.hid hs0
 clear hw0 hq hsg hrow hacts hac hNa0 hd0 hsg0 hby hg0 hb0 hs0
 go_enter Tryz.func8, Tryz.ntmps8
 go_upto_region 1 with fail
 try simp only [hq'.out]
 try rw [hw0'.out]
 go_wp2_with fail
 refine hWk.mono ?_
 clear hWk
 rintro e w1 ⟨rfl, hb1⟩
 have hd1 := hd0'.out.keep hb1 hd0'.out.inside
 have hsg1 := Lib.hid (hsg0'.out.on hb1)
 have hB1 := Lib.hid (hb0'.out.trans (hb1.mono (by have := hs0'.out; omega : q ≤ w0.heap.size)))
 have hs1 : q < w1.heap.size := by have := hb1.size; have := hs0'.out; omega
 have hP := parts13_any xb Nb cb bs a b c f w1 ((hrow0.out.keep hb1 (Nat.le_refl _)).more hb1.size) hby'.out ha hb hf
 have c0 := hd1.cell 0
 have c1 := hd1.cell 1
 have c2 := hd1.cell 2
 have c3 := hd1.cell 3
 have c4 := hd1.cell 4
 simp at c0 c1 c2 c3 c4
 clear hb1 hd1 hrow0 hd0' hsg0' hb0' hs0'
 go_wp2_with fail
 refine hP.mono ?_
 clear hP c0 c1 c2 c3 c4
 rintro e w2 ⟨⟨uf, ut, rfl, vs, t, hPa⟩, hb2⟩
 obtain ⟨iv, hiv, hv0, hv1, hv2⟩ := info_parts info_veh
 obtain ⟨iq, hiq, hq0, hq1, hq2⟩ := info_parts info_req
 have hsg2 := Lib.hid (hsg1.out.on hb2)
 have hB2 := Lib.hid (hB1.out.trans (hb2.mono (by omega : q ≤ w1.heap.size)))
 have hE0 := Lib.hid (newE_drawn hPa)
 have hOk := Lib.hid (new_drawn hPa)
 have hm2 := hPa.mem
 have hmem : Hid (∀ W, Below w2.heap.size w2 W → Vhs W.heap.size W uf vs ∧ Rqs W.heap.size W ut t) := Lib.hid (fun W hW => ⟨hm2.1.on hW, hm2.2.on hW⟩)
 have hpl1 := Lib.hid (own_plain hPa.ovs)
 have hpl2 := Lib.hid (own_plain hPa.ot)
 have hlv : vs.length ≤ 4 := hPa.cnt.2
 have hlt : t.length ≤ 9 := hPa.tl
 obtain ⟨xf, cf, rfl, -, -⟩ := owns_slice hPa.ovs
 obtain ⟨xt, ct, rfl, -, -⟩ := owns_slice hPa.ot
 have hg2 : Hid (1 < w2.heap.size ∧ 0 < w2.heap.size) := Lib.hid hsg2.out.pos
 have hqq : q ≤ w2.heap.size := by have := hb2.size; omega
 obtain ⟨nv, hnv⟩ : ∃ n, vs.length = n := ⟨_, rfl⟩
 obtain ⟨nt, hnt⟩ : ∃ n, t.length = n := ⟨_, rfl⟩
 rw [hnv] at hmem hpl1 hlv
 rw [hnt] at hmem hpl2 hlt
 rw [hnv, hnt]
 have hnv' := Lib.hid hnv
 have hnt' := Lib.hid hnt
 clear hb2 hPa hm2 hsg1 hB1 hnv hnt
 go_upto_region 5 with (at_builtin; first | (refine wpList_append_fresh rfl _ _ 28 rfl w2.heap.size 64 iv (.agg #[.int .i64 0, .int .i64 0, .int .i64 0, .int .i64 0, .int .i64 0]) 5 40 Tryz.underlying28 hiv hv0 hv1 hv2 rfl (by decide) w2.heap.size rfl (ownsEmptyQ rfl (Nat.le_refl _)) _ nv ⟨_, _, rfl⟩ hpl1.out (flatV vs) rfl (by rw [flatV_length, hnv'.out]) (fun ad c e => by simp only [Value.slice.injEq] at e; obtain ⟨rfl, -, rfl⟩ := e; exact vhs_flat (hmem.out _ ((Below.refl _ _).alloc (Nat.le_refl _) _)).1) flatV_one (by unfold maxLen; omega) (by omega) (by simp) ?_; intro v6 w6 hown6 hb6; have hs6 : w2.heap.size + 1 ≤ w6.heap.size := (by have h9 := hb6.size; simp at h9; omega); have hB6 := Lib.hid (((Below.refl w2.heap.size w2).alloc (Nat.le_refl _) _).trans (hb6.mono (by simp))); obtain ⟨x6, c6, rfl, -, -⟩ := owns_slice hown6; clear hb6) | (refine wpList_append_fresh rfl _ _ 29 rfl w2.heap.size 72 iq (.agg #[.int .i64 0, .int .i64 0, .int .i64 0, .int .i64 0, .int .i64 0, .int .i64 0, .int .i64 0, .int .i64 0, .int .i64 0, .int .i64 0]) 10 80 Tryz.underlying29 hiq hq0 hq1 hq2 rfl (by decide) w6.heap.size rfl (ownsEmptyQ rfl (by omega)) _ nt ⟨_, _, rfl⟩ hpl2.out (flatQ t) rfl (by rw [flatQ_length, hnt'.out]) (fun ad c e => by simp only [Value.slice.injEq] at e; obtain ⟨rfl, -, rfl⟩ := e; exact rqs_flat (hmem.out _ (hB6.out.alloc (by omega) _)).2) flatQ_one (by unfold maxLen; omega) (by omega) (by simp; omega) ?_; intro v7 w7 hown7 hb7; have hs7 : w6.heap.size + 1 ≤ w7.heap.size := (by have h9 := hb7.size; simp at h9; omega); have hb67 := Lib.hid (((Below.refl w6.heap.size w6).alloc (Nat.le_refl _) _).trans (hb7.mono (by simp))); obtain ⟨x7, c7, rfl, -, -⟩ := owns_slice hown7; clear hb7))
 have hown6' := own_on hown6 hb67.out
 have hB7 := Lib.hid (hB6.out.trans (hb67.out.mono (by omega)))
 have hW1 := Lib.hid (Wd.of_owns hown6')
 have hW2 := Lib.hid (Wd.of_owns hown7)
 have hV7 : Vhs w7.heap.size w7 (.slice x6 nv c6) vs := RowB.of_owns (rows := vs.map vhV) hown6' (by simp [hnv'.out]) (fun r hr => by obtain ⟨s, _, rfl⟩ := List.mem_map.1 hr; rfl) (Nat.le_refl _)
 have hT7 : Rqs w7.heap.size w7 (.slice x7 nt c7) t := RowB.of_owns (rows := t.map rqV) hown7 (by simp [hnt'.out]) (fun r hr => by obtain ⟨s, _, rfl⟩ := List.mem_map.1 hr; rfl) (Nat.le_refl _)
 have hN := New_any _ _ vs t w7 hV7 hT7 (own_plain hown6') (own_plain hown7) (by rw [hnv'.out]; omega) (by rw [hnt'.out]; omega)
 rw [hE0.out] at hN
 have hsg7 := Lib.hid (hsg2.out.on hB7.out)
 obtain ⟨q2, hq2⟩ : ∃ n, w2.heap.size = n := ⟨_, rfl⟩
 obtain ⟨q7, hq7⟩ : ∃ n, w7.heap.size = n := ⟨_, rfl⟩
 have hq27 : q2 ≤ q7 := by omega
 have hmem' : Hid (∀ W, Below q2 w2 W → Vhs W.heap.size W (.slice xf nv cf) vs ∧ Rqs W.heap.size W (.slice xt nt ct) t) := Lib.hid (by have := hmem.out; rw [hq2] at this; exact this)
 have hq2' := Lib.hid hq2
 have hq7' := Lib.hid hq7
 rw [hq2] at hW1 hW2 hB7 hg2 hqq
 rw [hq7] at hW1 hW2
 clear hown6 hown6' hown7 hV7 hT7 hb67 hB6 hmem hsg2 hs6 hs7 hE0 hpl1 hpl2 hq2 hq7 hiv hv0 hv1 hv2 hiq hq0 hq1
 go_wp2_with fail
 refine hN.mono ?_
 clear hN
 rintro e w8 ⟨-, hN, hb8⟩
 obtain ⟨p, rfl, G, hG, hGD⟩ := hN (by trivial)
 rw [hq7'.out] at hG
 have hGE := hGD (fun k => G k ∨ (q2 ≤ k ∧ k < q7)) (fun k h => .inl h) (fun k h => h.elim .inl (fun e => .inr (by rw [hq7'.out]; exact e.2)))
 have hA8 := Lib.hid hGE
 have hG8 := Lib.hid hG
 have hW1 := Lib.hid (hW1.out.shp (Shp.below hb8))
 have hW2 := Lib.hid (hW2.out.shp (Shp.below hb8))
 have hsg8 := Lib.hid (hsg7.out.on hb8)
 have hs8 : q7 ≤ w8.heap.size := by rw [← hq7'.out]; exact hb8.size
 have hB8 : Hid (Below q2 w2 w8) := Lib.hid (hB7.out.trans (hb8.mono (by rw [hq7'.out]; exact hq27)))
 clear hN hG hGD hGE hb8 hsg7 hB7
 go_wp2
 go_loopw [11] (fun i wr => ∃ k : Nat, k ≤ nv ∧ i = .int .i64 k ∧ Wrt (fun k => q2 ≤ k ∧ k < q7) w8 wr)
  (fun i _ => nv - (intOf i).toNat)
 case atStart => exact ⟨0, Nat.zero_le _, rfl, Wrt.refl _ _⟩
 case round =>
  obtain ⟨k, hk, rfl, hW⟩ := hrel
  by_cases hlk : k < nv
  · obtain ⟨g, cs, rfl, hgE, hA, hsz⟩ := (hW1.out.shp hW.s).at_ hlk
    have hki : (k : Int) < (nv : Int) := by omega
    have hkN := Lib.hid hlk
    have hW' := Lib.hid hW
    obtain ⟨y0, z0⟩ := at_some hA (i := k * 5) (by omega)
    obtain ⟨y1, z1⟩ := at_some hA (i := k * 5 + 1) (by omega)
    obtain ⟨y2, z2⟩ := at_some hA (i := k * 5 + 2) (by omega)
    obtain ⟨y3, z3⟩ := at_some hA (i := k * 5 + 3) (by omega)
    obtain ⟨y4, z4⟩ := at_some hA (i := k * 5 + 4) (by omega)
    have hAf := hA.free
    have hgi := hA.inside
    clear hA hW hsz
    go_wp2
    go_roundw
    case rel => exact ⟨k + 1, hkN.out, by go_num, ((((hW'.out.set hgE _ _).set hgE _ _).set hgE _ _).set hgE _ _).set hgE _ _⟩
    case measure => simp [intOf]; omega
  · obtain rfl : nv = k := by omega
    have hW' := Lib.hid hW
    have hW2' := Lib.hid (hW2.out.shp hW.s)
    clear hW
    go_wp2
    go_loopw [12] (fun i wr => ∃ k : Nat, k ≤ nt ∧ i = .int .i64 k ∧ Wrt (fun k => q2 ≤ k ∧ k < q7) w8 wr)
     (fun i _ => nt - (intOf i).toNat)
    case atStart => exact ⟨0, Nat.zero_le _, rfl, hW'.out⟩
    clear hW' hW2'
    case round =>
     obtain ⟨k, hk, rfl, hW⟩ := hrel
     by_cases hlk : k < nt
     · obtain ⟨g, cs, rfl, hgE, hA, hsz⟩ := (hW2.out.shp hW.s).at_ hlk
       have hki : (k : Int) < (nt : Int) := by omega
       have hkN := Lib.hid hlk
       have hW' := Lib.hid hW
       obtain ⟨y0, z0⟩ := at_some hA (i := k * 10) (by omega)
       obtain ⟨y1, z1⟩ := at_some hA (i := k * 10 + 1) (by omega)
       obtain ⟨y2, z2⟩ := at_some hA (i := k * 10 + 2) (by omega)
       obtain ⟨y3, z3⟩ := at_some hA (i := k * 10 + 3) (by omega)
       obtain ⟨y4, z4⟩ := at_some hA (i := k * 10 + 4) (by omega)
       obtain ⟨y5, z5⟩ := at_some hA (i := k * 10 + 5) (by omega)
       obtain ⟨y6, z6⟩ := at_some hA (i := k * 10 + 6) (by omega)
       obtain ⟨y7, z7⟩ := at_some hA (i := k * 10 + 7) (by omega)
       obtain ⟨y8, z8⟩ := at_some hA (i := k * 10 + 8) (by omega)
       obtain ⟨y9, z9⟩ := at_some hA (i := k * 10 + 9) (by omega)
       have hAf := hA.free
       have hgi := hA.inside
       clear hA hW hsz
       go_wp2
       go_roundw
       case rel => exact ⟨k + 1, hkN.out, by go_num, (((((((((hW'.out.set hgE _ _).set hgE _ _).set hgE _ _).set hgE _ _).set hgE _ _).set hgE _ _).set hgE _ _).set hgE _ _).set hgE _ _).set hgE _ _⟩
       case measure => simp [intOf]; omega
     · obtain rfl : nt = k := by omega
       have hA9 := Lib.hid (hA8.out.chg hW.c (fun k hk => ⟨.inr hk, fun hg => by have h1 := (hG8.out k hg).1; have h2 := hk.2; omega⟩))
       have hb89 := hW.c.below (n := q2) (by omega) (fun k hk => hk.1)
       have hB9 : Hid (Below q2 w2 wr) := Lib.hid (hB8.out.trans hb89)
       have hO9 : Hid (Own1 q2 w2 wr p (newS vs t)) := Lib.hid ⟨⟨_, G, hA9.out, fun k hk => by have := (hG8.out k hk).1; omega⟩, hOk.out, hsg8.out.keep hb89 hg2.out, hB9.out⟩
       have hs9 : q2 ≤ wr.heap.size := Nat.le_trans (by omega) hb89.size
       have hB2' : Hid (∀ W, Below q2 w2 W → Below q w W) := Lib.hid (fun W hW => hB2.out.trans (hW.mono hqq))
       have hBs : Hid (∀ W, Below q2 w2 W → q2 ≤ W.heap.size) := Lib.hid (fun W hW => by rw [← hq2'.out]; exact hW.size)
       have hholds : Hid (∀ (p : Nat) (W : World) (D G : Nat → Prop) (S : St), S.vs = vs → S.t = t → Ok S → PlanAt D G W p S → Below q2 w2 W → Calls Tryz.prog 21 #[.pointer (some ⟨p, 0, none⟩), .slice xf nv cf, .slice xt nt ct] W fun e w' => e = .returned (.bool true) ∧ Below W.heap.size W w') := Lib.hid (fun p W D G S e1 e2 ho hA hW => by
        have h3 := hmem'.out W hW
        refine holds_any _ _ W hA ho ?_ ?_
        · rw [e1]; exact h3.1
        · rw [e2]; exact h3.2)
       have hcellsA : Hid (∀ (k : Nat) (x y : Int), acts[k]? = some (x, y) → ∀ W, Below q2 w2 W → ∃ g o, xa = some ⟨g, o, none⟩ ∧ g < W.heap.size ∧ W.cell? ⟨g, o + k * 2, none⟩ = some (.int .u8 x) ∧ W.cell? ⟨g, o + k * 2 + 1, none⟩ = some (.int .u8 y)) := Lib.hid (fun k x y hxy W hW => by
        obtain ⟨g, o, e, hg, d0, d1⟩ := Acts.at (RowB.keep hacts'.out (hB2'.out W hW) (Nat.le_refl _)) hxy
        have hz : q2 ≤ W.heap.size := hBs.out W hW
        exact ⟨g, o, e, by omega, d0, d1⟩)
       clear hW hA9 hb89 hB9 hA8 hG8 hB8 hW1 hW2 hsg8 hB2 hacts' hOk hmem' hs8 hlv hlt
       go_wp2
       go_loopw [9, 13] (fun pp i wr => ∃ (k p : Nat) (S : St), k ≤ Na ∧ k ≤ 30 ∧ i = .int .i64 k ∧ pp = .pointer (some ⟨p, 0, none⟩) ∧ S.vs = vs ∧ S.t = t ∧ Own1 q2 w2 wr p S ∧ q2 ≤ wr.heap.size)
        (fun _ i _ => Na - (intOf i).toNat)
       case atStart => exact ⟨0, p, newS vs t, Nat.zero_le _, by omega, rfl, rfl, rfl, rfl, hO9.out, hs9⟩
       case round =>
        clear hO9 hs9
        obtain ⟨k, p1, S, hk, hk30, rfl, rfl, hvs, ht, hO, hsw⟩ := hrel
        by_cases hlt : k < Na ∧ k < 30
        case neg =>
         have hB := Lib.hid (hB2'.out wr hO.b)
         clear hO
         by_cases hka : k < Na
         · have hki : (k : Int) < (Na : Int) := by omega
           have hkn : ¬ ((k : Int) < 30) := by omega
           go_wp2
           go_ret
           exact ⟨rfl, by rw [hq'.out]; exact hB.out⟩
         · have hki : ¬ ((k : Int) < (Na : Int)) := by omega
           go_wp2
           go_ret
           exact ⟨rfl, by rw [hq'.out]; exact hB.out⟩
        obtain ⟨hka, hk3⟩ := hlt
        have hki : (k : Int) < (Na : Int) := by omega
        have hk3i : (k : Int) < 30 := by omega
        obtain ⟨⟨x, y⟩, hxy⟩ : ∃ s, acts[k]? = some s := ⟨acts[k]'(by rw [hNa.out]; exact hka), List.getElem?_eq_getElem _⟩
        obtain ⟨hxb, hyb⟩ := hac'.out _ (List.mem_of_getElem? hxy)
        simp only at hxb hyb
        obtain ⟨hx0, hx1⟩ := hxb
        obtain ⟨hy0, hy1⟩ := hyb
        have hcells := Lib.hid (hcellsA.out k x y hxy)
        have hkN := Lib.hid (And.intro hka hk3)
        have hvs' := Lib.hid hvs
        have ht' := Lib.hid ht
        have hok := Lib.hid hO.ok
        have hsgr := Lib.hid hO.sg
        have hBr := Lib.hid hO.b
        obtain ⟨D, G9, hA, hGq⟩ := hO.ex
        have hG9 : Hid (∀ k, G9 k → q2 ≤ k ∧ k < wr.heap.size) := Lib.hid (fun k hk => ⟨hGq k hk, hA.lt k (hA.sub k hk)⟩)
        have hA' := Lib.hid hA
        have hCp := Copy_any wr hA hO.ok
        obtain ⟨r, hr⟩ : ∃ r, y % 12 - 1 = r := ⟨_, rfl⟩
        have hrb : -1 ≤ r ∧ r ≤ 10 := by omega
        have hSmall : S.rows.length ≤ 4 := hO.ok.small
        have hSpos : 0 < S.rows.length := by rw [hO.ok.len]; exact hO.ok.cnt.1
        have hShort := Lib.hid hO.ok.shorts
        have hrowl : Hid (∀ l ∈ S.rows, l.length ≤ 16) := Lib.hid (fun l hl => by
         obtain ⟨i, hi, e⟩ := List.getElem_of_mem hl
         have hv : S.vs[i]? = some (S.vs[i]'(by rw [← hok.out.len]; exact hi)) := List.getElem?_eq_getElem _
         exact (hok.out.dr i _ l hv (by rw [← e]; exact List.getElem?_eq_getElem hi)).1.hn)
        have hal : (allS S).length ≤ 1000 := Nat.le_trans (allS_len S) hO.ok.tl
        obtain ⟨N, hN⟩ : ∃ n, S.rows.length = n := ⟨_, rfl⟩
        rw [hN] at hSmall hSpos
        have hN' := Lib.hid hN
        clear hxy hvs ht hO hA hGq hka hk3 hN
        go_wp2_with fail
        refine hCp.mono ?_
        clear hCp
        rintro e w4 ⟨⟨p2, rfl, D2, G2, hP2, hGr, hG2⟩, hb4⟩
        have hA4 := Lib.hid (hA'.out.grow hb4 hGr)
        have hG2l : Hid (∀ k, G2 k → wr.heap.size ≤ k ∧ k < w4.heap.size) := Lib.hid (fun k hk => ⟨hG2 k hk, hGr.lt k (hP2.sub k hk)⟩)
        have hD2l := Lib.hid hGr.lt
        have hP2' := Lib.hid hP2
        have hs4 : wr.heap.size ≤ w4.heap.size := hb4.size
        have hB4 := Lib.hid (hBr.out.trans (hb4.mono hsw))
        have hz4 := Lib.hid (hb4.mono hsw)
        obtain ⟨ga, oa, rfl, hga, d0, d1⟩ := hcells.out w4 hB4.out
        have hRt := Routes_any w4 hA4.out hok.out
        clear hP2 hGr hG2 hb4 hA' d0
        go_upto_region 23 with fail
        try rw [hr]
        clear d1 hr
        go_wp2_with fail
        refine hRt.mono ?_
        clear hRt
        rintro e w5 ⟨⟨u, rfl, us, hu⟩, hb5⟩
        obtain ⟨gr, cu0, rfl, hcu1, hcu2⟩ := hu.at0 hN'.out hSpos
        unfold maxLen at hcu2
        have hu' := Lib.hid hu
        have hs5 : w4.heap.size ≤ w5.heap.size := hb5.size
        have hb5' := Lib.hid hb5
        have hAll := All_any w5 (hA4.out.on hb5) hok.out
        clear hu hb5
        go_wp2_with fail
        refine hAll.mono ?_
        clear hAll
        rintro e w6 ⟨⟨ua, rfl, hua⟩, hb6⟩
        obtain ⟨NA, hNA⟩ : ∃ n, (allS S).length = n := ⟨_, rfl⟩
        rw [hNA] at hua
        obtain ⟨xl, cl, rfl, hcl1, hcl2⟩ := owns_slice hua
        unfold maxLen at hcl1
        have hNA' := Lib.hid hNA
        have hua' := Lib.hid hua
        have hu6 := Lib.hid (hu'.out.on hb6)
        have hb46 := Lib.hid (hb5'.out.trans (hb6.mono hs5))
        have hs6 : w5.heap.size ≤ w6.heap.size := hb6.size
        have hs46 : w4.heap.size ≤ w6.heap.size := Nat.le_trans hs5 hs6
        obtain ⟨D1, hD1⟩ : ∃ D1 : Nat → Prop, D1 = fun k => D2 k ∨ (w4.heap.size ≤ k ∧ k < w6.heap.size) := ⟨_, rfl⟩
        have hGr1 : Grew D2 D1 w4 w6 := by
         rw [hD1]
         exact ⟨fun k h => .inl h, fun k h => h.elim .inl (fun e => .inr e.1), fun k h => h.elim (fun hd => Nat.lt_of_lt_of_le (hD2l.out k hd) hs46) (fun e => e.2)⟩
        have hE1 : Hid (∀ k, (w4.heap.size ≤ k ∧ k < w6.heap.size) → D1 k) := Lib.hid (fun k hk => by rw [hD1]; exact .inr hk)
        have hA6 := Lib.hid (hA4.out.grow hb46.out hGr1)
        have hP6 := Lib.hid (hP2'.out.grow hb46.out hGr1)
        have hB6 := Lib.hid (hB4.out.trans (hb46.out.mono (Nat.le_trans hsw hs4)))
        have hz6 := Lib.hid (hz4.out.trans (hb46.out.mono (Nat.le_trans hsw hs4)))
        have hsg6 := Lib.hid (hsgr.out.keep hz6.out hg2.out)
        obtain ⟨ga', oa', e9, hga', d0, d1⟩ := hcells.out w6 hB6.out
        cases e9
        clear hNA hua hb6 hD1 hGr1 hA4 hP2' hu' hb5' hD2l
        by_cases hx4 : x % 4 = 1
        · have hTk := Take_any r w6 hP6.out hok.out
          have hok2 := Lib.hid (take_ok hok.out r)
          have hv2 : Hid ((takeS S r).vs = vs ∧ (takeS S r).t = t) := Lib.hid ⟨(takeS_t S r).2.trans hvs'.out, (takeS_t S r).1.trans ht'.out⟩
          obtain ⟨S2, hS2⟩ : ∃ S2, takeS S r = S2 := ⟨_, rfl⟩
          rw [hS2] at hTk hok2 hv2
          go_upto_region 25 with fail
          clear d0 d1 hS2
          go_wp2_with fail
          refine hTk.mono ?_
          clear hTk
          rintro e w7 ⟨rfl, ⟨D3, G3, hP7, hGr7, hG3⟩, hc7⟩
          have hG2d : ∀ k, G2 k → k < w4.heap.size := fun k hk => (hG2l.out k hk).2
          have hA7 := Lib.hid (hA6.out.chg hc7 (fun k hk => ⟨hP6.out.sub k hk, fun hg => by have h1 := (hG2l.out k hk).1; have h2 := (hG9.out k hg).2; omega⟩))
          have hu7 := Lib.hid (hu6.out.chg hc7 hG2d)
          have hua7 := Lib.hid (hc7.owns hua'.out (owns_off hua'.out (fun k hk => Nat.lt_of_lt_of_le (hG2d k hk) hs5)))
          have hbb7 := hc7.below (n := q2) (Nat.le_trans hsw (Nat.le_trans hs4 hs46)) (fun k hk => Nat.le_trans hsw (hG2l.out k hk).1)
          have hB7 := Lib.hid (hB6.out.trans hbb7)
          have hz7 := Lib.hid (hz6.out.trans hbb7)
          have hs67 : w6.heap.size ≤ w7.heap.size := hbb7.size
          have hG3' : Hid (∀ k, G3 k → (wr.heap.size ≤ k ∧ k < w4.heap.size) ∨ w6.heap.size ≤ k) := Lib.hid (fun k hk => (hG3 k hk).elim (fun h => .inl (hG2l.out k h)) .inr)
          have hup := Lib.hid (fun k hk => hGr7.up k (hE1.out k hk))
          have hP7' := Lib.hid hP7
          have hq7s : q2 ≤ w7.heap.size := by omega
          have hRt := Routes_any w7 hA7.out hok.out
          clear hP7 hGr7 hG3 hc7 hG2d hbb7 hA6 hP6 hsg6
          go_wp2_with fail
          refine hRt.mono ?_
          clear hRt
          rintro e w8 ⟨⟨u8, rfl, us8, hu8⟩, hb8⟩
          obtain ⟨gr8, cu8, rfl, -, -⟩ := hu8.at0 hN'.out hSpos
          have hSm := refSame_same _ _ S.rows (by rw [hN'.out]; omega) hShort.out w8 hu8.rws (hu7.out.on hb8).rws
          have hb8' := Lib.hid hb8
          have hs8 : w7.heap.size ≤ w8.heap.size := hb8.size
          clear hu8 hb8
          go_wp2_with fail
          refine hSm.mono ?_
          clear hSm
          rintro e w9 ⟨rfl, hb9⟩
          have hb9' := Lib.hid (hb8'.out.trans (hb9.mono hs8))
          have hs9 : w7.heap.size ≤ w9.heap.size := Nat.le_trans hs8 hb9.size
          have hAl := All_any w9 (hA7.out.on hb9'.out) hok.out
          clear hb9 hb8'
          go_wp2_with fail
          refine hAl.mono ?_
          clear hAl
          rintro e w10 ⟨⟨u10, rfl, hu10⟩, hb10⟩
          rw [hNA'.out] at hu10
          have hI10 := Ints.of_owns (B := w10.heap.size) hu10 hNA'.out.symm (Nat.le_refl _)
          obtain ⟨x10, c10, rfl, -, -⟩ := owns_slice hu10
          have hb10' := Lib.hid (hb9'.out.trans (hb10.mono hs9))
          have hs10 : w7.heap.size ≤ w10.heap.size := Nat.le_trans hs9 hb10.size
          have hua10 := own_on hua7.out hb10'.out
          have hIn := refInts_same _ _ (allS S) (by omega) w10 hI10 (Ints.of_owns (B := w10.heap.size) hua10 hNA'.out.symm (Nat.le_refl _))
          clear hu10 hb10 hI10 hua10 hb9'
          go_wp2_with fail
          refine hIn.mono ?_
          clear hIn
          rintro e w11 ⟨rfl, hb11⟩
          have hb11' := hb10'.out.trans (hb11.mono hs10)
          have hs11 : w7.heap.size ≤ w11.heap.size := Nat.le_trans hs10 hb11.size
          have hA11 := Lib.hid (hA7.out.on hb11')
          have hP11 := Lib.hid (hP7'.out.on hb11')
          have hu11 := hu7.out.on hb11'
          have hua11 := own_on hua7.out hb11'
          have hB11 := Lib.hid (hB7.out.trans (hb11'.mono hq7s))
          have hz11 := Lib.hid (hz7.out.trans (hb11'.mono hq7s))
          have hWa := Lib.hid (Wd.of2 hua'.out hua11)
          have hWr : Hid (∀ (i : Nat) u l, us[i]? = some u → S.rows[i]? = some l → Wd w4.heap.size w6.heap.size 75 2 w11 u l.length) := Lib.hid (fun i u l h1 h2 => Wd.of2 (hu6.out.2 i u l h1 h2) (hu11.2 i u l h1 h2))
          have hout := hu11.1
          rw [hN'.out] at hout
          have hout' := Lib.hid hout
          have hul : us.length = N := by have := hout.1; omega
          clear hb11 hb11' hb10' hA7 hP7' hu11 hua11 hu7 hua7 hB7 hz7 hout
          go_wp2
          go_loopw [18] (fun i wr => ∃ j : Nat, j ≤ N ∧ i = .int .i64 j ∧ Wrt (fun k => w4.heap.size ≤ k ∧ k < w6.heap.size) w11 wr ∧ wr.ownsRow w4.heap.size 59 1 (.slice (some ⟨gr, 0, none⟩) N cu0) N us)
           (fun i _ => N - (intOf i).toNat)
          case atStart => exact ⟨0, Nat.zero_le _, rfl, Wrt.refl _ _, hout'.out⟩
          case round =>
           obtain ⟨j, hj, rfl, hW, hou⟩ := hrel
           by_cases hlj : j < N
           · obtain ⟨l, hl⟩ : ∃ l, S.rows[j]? = some l := ⟨S.rows[j]'(by rw [hN'.out]; exact hlj), List.getElem?_eq_getElem _⟩
             obtain ⟨u, huj⟩ : ∃ u, us[j]? = some u := ⟨us[j]'(by omega), List.getElem?_eq_getElem _⟩
             have hWj := Lib.hid (hWr.out j u l huj hl)
             have hl16 : l.length ≤ 16 := hrowl.out l (List.mem_of_getElem? hl)
             obtain ⟨M, hM⟩ : ∃ M, l.length = M := ⟨_, rfl⟩
             rw [hM] at hWj hl16
             obtain ⟨xu, cu, rfl, hcm1, hcm2, -⟩ := hWj.out
             unfold maxLen at hcm2
             have huj' := Lib.hid huj
             obtain ⟨zc, hgrl⟩ := outer_cell hou huj
             have hji : (j : Int) < (N : Int) := by omega
             have hjN := Lib.hid hlj
             have hW' := Lib.hid hW
             have hou' := Lib.hid hou
             clear hl huj hM hW hou
             go_wp2
             clear zc hgrl
             go_loopw [19] (fun i wr => ∃ m : Nat, m ≤ M ∧ i = .int .i64 m ∧ Wrt (fun k => w4.heap.size ≤ k ∧ k < w6.heap.size) w11 wr ∧ wr.ownsRow w4.heap.size 59 1 (.slice (some ⟨gr, 0, none⟩) N cu0) N us)
              (fun i _ => M - (intOf i).toNat)
             case atStart => exact ⟨0, Nat.zero_le _, rfl, hW'.out, hou'.out⟩
             clear hW' hou'
             case round =>
              obtain ⟨m, hm, rfl, hW, hou⟩ := hrel
              obtain ⟨zc, hgrl⟩ := outer_cell hou huj'.out
              by_cases hlm : m < M
              · obtain ⟨g, cs, rfl, hgE, hAt, hsz⟩ := (hWj.out.shp hW.s).at_ hlm
                have hng : (Value.slice (some ⟨gr, 0, none⟩) N cu0).ownBlock ≠ some g := own_at_ne hAt hou (by decide)
                have hmi : (m : Int) < (M : Int) := by omega
                have hmN := Lib.hid hlm
                have hW' := Lib.hid hW
                have hou2 := Lib.hid (fun x1 x2 => own_set (own_set hou hng (m * 2) x1) hng (m * 2 + 1) x2)
                obtain ⟨y0, z0⟩ := at_some hAt (i := m * 2) (by omega)
                obtain ⟨y1, z1⟩ := at_some hAt (i := m * 2 + 1) (by omega)
                have hAf := hAt.free
                have hgi := hAt.inside
                clear hAt hW hou hsz hng
                go_wp2
                go_roundw
                case rel => exact ⟨m + 1, hmN.out, by go_num, (hW'.out.set hgE _ _).set hgE _ _, hou2.out _ _⟩
                case measure => simp [intOf]; omega
              · obtain rfl : M = m := by omega
                have hW' := Lib.hid hW
                have hou' := Lib.hid hou
                clear hW hou
                go_wp2
                go_roundw
                case rel => exact ⟨j + 1, hjN.out, by go_num, hW'.out, hou'.out⟩
                case measure => simp [intOf]; omega
           · obtain rfl : N = j := by omega
             have hW' := Lib.hid hW
             clear hW hou hWr hout'
             go_wp2
             go_loopw [20] (fun i wr => ∃ j : Nat, j ≤ NA ∧ i = .int .i64 j ∧ Wrt (fun k => w4.heap.size ≤ k ∧ k < w6.heap.size) w11 wr)
              (fun i _ => NA - (intOf i).toNat)
             case atStart => exact ⟨0, Nat.zero_le _, rfl, hW'.out⟩
             clear hW'
             case round =>
              obtain ⟨j, hj, rfl, hW⟩ := hrel
              by_cases hlj : j < NA
              · obtain ⟨g, cs, rfl, hgE, hAt, hsz⟩ := (hWa.out.shp hW.s).at_ hlj
                have hji : (j : Int) < (NA : Int) := by omega
                have hjN := Lib.hid hlj
                have hW' := Lib.hid hW
                obtain ⟨y0, z0⟩ := at_some hAt (i := j) (by omega)
                have hAf := hAt.free
                have hgi := hAt.inside
                have hgE' : w4.heap.size ≤ g ∧ g < w6.heap.size := ⟨Nat.le_trans hs5 hgE.1, hgE.2⟩
                clear hAt hW hsz hgE
                go_wp2
                go_roundw
                case rel => exact ⟨j + 1, hjN.out, by go_num, hW'.out.set hgE' _ _⟩
                case measure => simp [intOf]; omega
              · obtain rfl : NA = j := by omega
                have hbw := hW.c.below (n := q2) (by omega) (fun k hk => by have := hk.1; omega)
                have hA12 := Lib.hid (hA11.out.chg hW.c (fun k hk => ⟨hE1.out k hk, fun hg => by have h1 := hk.1; have h2 := (hG9.out k hg).2; omega⟩))
                have hP12 := Lib.hid (hP11.out.chg hW.c (fun k hk => ⟨hup.out k hk, fun hg => by have h1 := hk.1; have h3 := hk.2; have h2 := hG3'.out k hg; omega⟩))
                have hB12 := Lib.hid (hB11.out.trans hbw)
                have hz12 := Lib.hid (hz11.out.trans hbw)
                have hs12 : q2 ≤ wr.heap.size := Nat.le_trans (by omega) hbw.size
                have hH := hholds.out p1 wr _ _ S hvs'.out ht'.out hok.out hA12.out hB12.out
                clear hW hbw hA11 hP11 hB11 hz11
                go_wp2_with fail
                refine hH.mono ?_
                clear hH
                rintro e w13 ⟨rfl, hb13⟩
                have hP13 := Lib.hid (hP12.out.on hb13)
                have hB13 := Lib.hid (hB12.out.trans (hb13.mono hs12))
                have hz13 := Lib.hid (hz12.out.trans (hb13.mono hs12))
                have hs13 : q2 ≤ w13.heap.size := Nat.le_trans hs12 hb13.size
                have hH := hholds.out p2 w13 _ _ S2 hv2.out.1 hv2.out.2 hok2.out hP13.out hB13.out
                clear hb13 hP12 hB12 hz12 hA12
                go_wp2_with fail
                refine hH.mono ?_
                clear hH
                rintro e w14 ⟨rfl, hb14⟩
                have hP14 := Lib.hid (hP13.out.on hb14)
                have hB14 := Lib.hid (hB13.out.trans (hb14.mono hs13))
                have hz14 := Lib.hid (hz13.out.trans (hb14.mono hs13))
                have hs14 : q2 ≤ w14.heap.size := Nat.le_trans hs13 hb14.size
                clear hb14 hP13 hB13 hz13
                have hfin : Hid (Own1 q2 w2 w14 p2 S2) := Lib.hid ⟨⟨D3, G3, hP14.out, fun k hk => by have h2 := hG3'.out k hk; omega⟩, hok2.out, hsgr.out.keep hz14.out hg2.out, hB14.out⟩
                go_wp2
                go_roundw
                case rel => exact ⟨k + 1, p2, S2, hkN.out.1, hkN.out.2, by go_num, rfl, hv2.out.1, hv2.out.2, hfin.out, hs14⟩
                case measure => have := hkN.out.1; simp [intOf]; omega
        · have hx5 : (x % 4 == 1) = false := by simpa using hx4
          have hPut := Put_any r w6 hP6.out hok.out hsg6.out
          have hok2 := Lib.hid (put_ok hok.out r)
          have hv2 : Hid ((putS S r).vs = vs ∧ (putS S r).t = t) := Lib.hid ⟨(putS_t S r).2.trans hvs'.out, (putS_t S r).1.trans ht'.out⟩
          obtain ⟨S2, hS2⟩ : ∃ S2, putS S r = S2 := ⟨_, rfl⟩
          rw [hS2] at hPut hok2 hv2
          go_upto_region 26 with fail
          clear d0 d1 hS2
          go_wp2_with fail
          refine hPut.mono ?_
          clear hPut
          rintro e w7 ⟨rfl, ⟨D3, G3, hP7, hGr7, hG3⟩, hc7⟩
          have hG2d : ∀ k, G2 k → k < w4.heap.size := fun k hk => (hG2l.out k hk).2
          have hA7 := Lib.hid (hA6.out.chg hc7 (fun k hk => ⟨hP6.out.sub k hk, fun hg => by have h1 := (hG2l.out k hk).1; have h2 := (hG9.out k hg).2; omega⟩))
          have hu7 := Lib.hid (hu6.out.chg hc7 hG2d)
          have hua7 := Lib.hid (hc7.owns hua'.out (owns_off hua'.out (fun k hk => Nat.lt_of_lt_of_le (hG2d k hk) hs5)))
          have hbb7 := hc7.below (n := q2) (Nat.le_trans hsw (Nat.le_trans hs4 hs46)) (fun k hk => Nat.le_trans hsw (hG2l.out k hk).1)
          have hB7 := Lib.hid (hB6.out.trans hbb7)
          have hz7 := Lib.hid (hz6.out.trans hbb7)
          have hs67 : w6.heap.size ≤ w7.heap.size := hbb7.size
          have hG3' : Hid (∀ k, G3 k → (wr.heap.size ≤ k ∧ k < w4.heap.size) ∨ w6.heap.size ≤ k) := Lib.hid (fun k hk => (hG3 k hk).elim (fun h => .inl (hG2l.out k h)) .inr)
          have hup := Lib.hid (fun k hk => hGr7.up k (hE1.out k hk))
          have hP7' := Lib.hid hP7
          have hq7s : q2 ≤ w7.heap.size := by omega
          have hRt := Routes_any w7 hA7.out hok.out
          clear hP7 hGr7 hG3 hc7 hG2d hbb7 hA6 hP6 hsg6
          go_wp2_with fail
          refine hRt.mono ?_
          clear hRt
          rintro e w8 ⟨⟨u8, rfl, us8, hu8⟩, hb8⟩
          obtain ⟨gr8, cu8, rfl, -, -⟩ := hu8.at0 hN'.out hSpos
          have hSm := refSame_same _ _ S.rows (by rw [hN'.out]; omega) hShort.out w8 hu8.rws (hu7.out.on hb8).rws
          have hb8' := Lib.hid hb8
          have hs8 : w7.heap.size ≤ w8.heap.size := hb8.size
          clear hu8 hb8
          go_wp2_with fail
          refine hSm.mono ?_
          clear hSm
          rintro e w9 ⟨rfl, hb9⟩
          have hb9' := Lib.hid (hb8'.out.trans (hb9.mono hs8))
          have hs9 : w7.heap.size ≤ w9.heap.size := Nat.le_trans hs8 hb9.size
          have hAl := All_any w9 (hA7.out.on hb9'.out) hok.out
          clear hb9 hb8'
          go_wp2_with fail
          refine hAl.mono ?_
          clear hAl
          rintro e w10 ⟨⟨u10, rfl, hu10⟩, hb10⟩
          rw [hNA'.out] at hu10
          have hI10 := Ints.of_owns (B := w10.heap.size) hu10 hNA'.out.symm (Nat.le_refl _)
          obtain ⟨x10, c10, rfl, -, -⟩ := owns_slice hu10
          have hb10' := Lib.hid (hb9'.out.trans (hb10.mono hs9))
          have hs10 : w7.heap.size ≤ w10.heap.size := Nat.le_trans hs9 hb10.size
          have hua10 := own_on hua7.out hb10'.out
          have hIn := refInts_same _ _ (allS S) (by omega) w10 hI10 (Ints.of_owns (B := w10.heap.size) hua10 hNA'.out.symm (Nat.le_refl _))
          clear hu10 hb10 hI10 hua10 hb9'
          go_wp2_with fail
          refine hIn.mono ?_
          clear hIn
          rintro e w11 ⟨rfl, hb11⟩
          have hb11' := hb10'.out.trans (hb11.mono hs10)
          have hs11 : w7.heap.size ≤ w11.heap.size := Nat.le_trans hs10 hb11.size
          have hA11 := Lib.hid (hA7.out.on hb11')
          have hP11 := Lib.hid (hP7'.out.on hb11')
          have hu11 := hu7.out.on hb11'
          have hua11 := own_on hua7.out hb11'
          have hB11 := Lib.hid (hB7.out.trans (hb11'.mono hq7s))
          have hz11 := Lib.hid (hz7.out.trans (hb11'.mono hq7s))
          have hWa := Lib.hid (Wd.of2 hua'.out hua11)
          have hWr : Hid (∀ (i : Nat) u l, us[i]? = some u → S.rows[i]? = some l → Wd w4.heap.size w6.heap.size 75 2 w11 u l.length) := Lib.hid (fun i u l h1 h2 => Wd.of2 (hu6.out.2 i u l h1 h2) (hu11.2 i u l h1 h2))
          have hout := hu11.1
          rw [hN'.out] at hout
          have hout' := Lib.hid hout
          have hul : us.length = N := by have := hout.1; omega
          clear hb11 hb11' hb10' hA7 hP7' hu11 hua11 hu7 hua7 hB7 hz7 hout
          go_wp2
          go_loopw [18] (fun i wr => ∃ j : Nat, j ≤ N ∧ i = .int .i64 j ∧ Wrt (fun k => w4.heap.size ≤ k ∧ k < w6.heap.size) w11 wr ∧ wr.ownsRow w4.heap.size 59 1 (.slice (some ⟨gr, 0, none⟩) N cu0) N us)
           (fun i _ => N - (intOf i).toNat)
          case atStart => exact ⟨0, Nat.zero_le _, rfl, Wrt.refl _ _, hout'.out⟩
          case round =>
           obtain ⟨j, hj, rfl, hW, hou⟩ := hrel
           by_cases hlj : j < N
           · obtain ⟨l, hl⟩ : ∃ l, S.rows[j]? = some l := ⟨S.rows[j]'(by rw [hN'.out]; exact hlj), List.getElem?_eq_getElem _⟩
             obtain ⟨u, huj⟩ : ∃ u, us[j]? = some u := ⟨us[j]'(by omega), List.getElem?_eq_getElem _⟩
             have hWj := Lib.hid (hWr.out j u l huj hl)
             have hl16 : l.length ≤ 16 := hrowl.out l (List.mem_of_getElem? hl)
             obtain ⟨M, hM⟩ : ∃ M, l.length = M := ⟨_, rfl⟩
             rw [hM] at hWj hl16
             obtain ⟨xu, cu, rfl, hcm1, hcm2, -⟩ := hWj.out
             unfold maxLen at hcm2
             have huj' := Lib.hid huj
             obtain ⟨zc, hgrl⟩ := outer_cell hou huj
             have hji : (j : Int) < (N : Int) := by omega
             have hjN := Lib.hid hlj
             have hW' := Lib.hid hW
             have hou' := Lib.hid hou
             clear hl huj hM hW hou
             go_wp2
             clear zc hgrl
             go_loopw [19] (fun i wr => ∃ m : Nat, m ≤ M ∧ i = .int .i64 m ∧ Wrt (fun k => w4.heap.size ≤ k ∧ k < w6.heap.size) w11 wr ∧ wr.ownsRow w4.heap.size 59 1 (.slice (some ⟨gr, 0, none⟩) N cu0) N us)
              (fun i _ => M - (intOf i).toNat)
             case atStart => exact ⟨0, Nat.zero_le _, rfl, hW'.out, hou'.out⟩
             clear hW' hou'
             case round =>
              obtain ⟨m, hm, rfl, hW, hou⟩ := hrel
              obtain ⟨zc, hgrl⟩ := outer_cell hou huj'.out
              by_cases hlm : m < M
              · obtain ⟨g, cs, rfl, hgE, hAt, hsz⟩ := (hWj.out.shp hW.s).at_ hlm
                have hng : (Value.slice (some ⟨gr, 0, none⟩) N cu0).ownBlock ≠ some g := own_at_ne hAt hou (by decide)
                have hmi : (m : Int) < (M : Int) := by omega
                have hmN := Lib.hid hlm
                have hW' := Lib.hid hW
                have hou2 := Lib.hid (fun x1 x2 => own_set (own_set hou hng (m * 2) x1) hng (m * 2 + 1) x2)
                obtain ⟨y0, z0⟩ := at_some hAt (i := m * 2) (by omega)
                obtain ⟨y1, z1⟩ := at_some hAt (i := m * 2 + 1) (by omega)
                have hAf := hAt.free
                have hgi := hAt.inside
                clear hAt hW hou hsz hng
                go_wp2
                go_roundw
                case rel => exact ⟨m + 1, hmN.out, by go_num, (hW'.out.set hgE _ _).set hgE _ _, hou2.out _ _⟩
                case measure => simp [intOf]; omega
              · obtain rfl : M = m := by omega
                have hW' := Lib.hid hW
                have hou' := Lib.hid hou
                clear hW hou
                go_wp2
                go_roundw
                case rel => exact ⟨j + 1, hjN.out, by go_num, hW'.out, hou'.out⟩
                case measure => simp [intOf]; omega
           · obtain rfl : N = j := by omega
             have hW' := Lib.hid hW
             clear hW hou hWr hout'
             go_wp2
             go_loopw [20] (fun i wr => ∃ j : Nat, j ≤ NA ∧ i = .int .i64 j ∧ Wrt (fun k => w4.heap.size ≤ k ∧ k < w6.heap.size) w11 wr)
              (fun i _ => NA - (intOf i).toNat)
             case atStart => exact ⟨0, Nat.zero_le _, rfl, hW'.out⟩
             clear hW'
             case round =>
              obtain ⟨j, hj, rfl, hW⟩ := hrel
              by_cases hlj : j < NA
              · obtain ⟨g, cs, rfl, hgE, hAt, hsz⟩ := (hWa.out.shp hW.s).at_ hlj
                have hji : (j : Int) < (NA : Int) := by omega
                have hjN := Lib.hid hlj
                have hW' := Lib.hid hW
                obtain ⟨y0, z0⟩ := at_some hAt (i := j) (by omega)
                have hAf := hAt.free
                have hgi := hAt.inside
                have hgE' : w4.heap.size ≤ g ∧ g < w6.heap.size := ⟨Nat.le_trans hs5 hgE.1, hgE.2⟩
                clear hAt hW hsz hgE
                go_wp2
                go_roundw
                case rel => exact ⟨j + 1, hjN.out, by go_num, hW'.out.set hgE' _ _⟩
                case measure => simp [intOf]; omega
              · obtain rfl : NA = j := by omega
                have hbw := hW.c.below (n := q2) (by omega) (fun k hk => by have := hk.1; omega)
                have hA12 := Lib.hid (hA11.out.chg hW.c (fun k hk => ⟨hE1.out k hk, fun hg => by have h1 := hk.1; have h2 := (hG9.out k hg).2; omega⟩))
                have hP12 := Lib.hid (hP11.out.chg hW.c (fun k hk => ⟨hup.out k hk, fun hg => by have h1 := hk.1; have h3 := hk.2; have h2 := hG3'.out k hg; omega⟩))
                have hB12 := Lib.hid (hB11.out.trans hbw)
                have hz12 := Lib.hid (hz11.out.trans hbw)
                have hs12 : q2 ≤ wr.heap.size := Nat.le_trans (by omega) hbw.size
                have hH := hholds.out p1 wr _ _ S hvs'.out ht'.out hok.out hA12.out hB12.out
                clear hW hbw hA11 hP11 hB11 hz11
                go_wp2_with fail
                refine hH.mono ?_
                clear hH
                rintro e w13 ⟨rfl, hb13⟩
                have hP13 := Lib.hid (hP12.out.on hb13)
                have hB13 := Lib.hid (hB12.out.trans (hb13.mono hs12))
                have hz13 := Lib.hid (hz12.out.trans (hb13.mono hs12))
                have hs13 : q2 ≤ w13.heap.size := Nat.le_trans hs12 hb13.size
                have hH := hholds.out p2 w13 _ _ S2 hv2.out.1 hv2.out.2 hok2.out hP13.out hB13.out
                clear hb13 hP12 hB12 hz12 hA12
                go_wp2_with fail
                refine hH.mono ?_
                clear hH
                rintro e w14 ⟨rfl, hb14⟩
                have hP14 := Lib.hid (hP13.out.on hb14)
                have hB14 := Lib.hid (hB13.out.trans (hb14.mono hs13))
                have hz14 := Lib.hid (hz13.out.trans (hb14.mono hs13))
                have hs14 : q2 ≤ w14.heap.size := Nat.le_trans hs13 hb14.size
                clear hb14 hP13 hB13 hz13
                have hfin : Hid (Own1 q2 w2 w14 p2 S2) := Lib.hid ⟨⟨D3, G3, hP14.out, fun k hk => by have h2 := hG3'.out k hk; omega⟩, hok2.out, hsgr.out.keep hz14.out hg2.out, hB14.out⟩
                go_wp2
                go_roundw
                case rel => exact ⟨k + 1, p2, S2, hkN.out.1, hkN.out.2, by go_num, rfl, hv2.out.1, hv2.out.2, hfin.out, hs14⟩
                case measure => have := hkN.out.1; simp [intOf]; omega
end Go.Proofs.YtlbghdiebjldjaaGreatDoor.Plan
/-
  PlanOwn, a plan shares nothing, neither with what was handed in, nor with what it answered, nor with its copy, returns true: for all drafts, and acts (thirty at most). Its condition: package load's variable signs and package cheap's variable none are as the program's text lays them when the call begins, which the card ties to that text.
-/
namespace Go.Proofs.YtlbghdiebjldjaaGreatDoor.planOwn
open Go.ChangeShapes Go.WideShapes Go.ChangeAt Go.RowKit Go.Sort
open Go.Proofs.YtlbghdiebjldjaaGreatDoor.Laid Go.Proofs.YtlbghdiebjldjaaGreatDoor.When Go.Proofs.YtlbghdiebjldjaaGreatDoor.Plan
set_option linter.unusedVariables false
set_option maxRecDepth 100000 in
theorem lifted (os : Os) (started : os.Started) (H : Type) (enc : TypeId × Value → H) :
 ReturnsInHanded {} Tryz.checked os 8 .any (fun w args => (Rows.planOwnSpec.pre enc Tryz.prog Tryz.f8 [] false w args ∧ laidMetH Tryz.prog Rows.planOwnRow.laid w) ∧ sizedMet enc Tryz.prog Tryz.f8 (OpenSpec.ofChange Rows.planOwnSpec) false w args)
  (Rows.planOwnSpec.post enc Tryz.prog Tryz.f8 false true false false) := by
 refine returnsInHanded_of_change_and (C := Tryz.checked) (X := fun w _ => laidMetH Tryz.prog Rows.planOwnRow.laid w) (fun _ _ _ hh h => h.of_heap hh) own started (by kernel_rfl) Tryz.func8
  (ChangeSpec.witness_shaped (enc := enc) (C := Tryz.checked) (os := os) (X := fun w _ => laidMetH Tryz.prog Rows.planOwnRow.laid w) false (World.doorLaid Tryz.prog 400 os) #[.agg #[.slice none 0 0, .int .u8 0, .int .u8 0, .int .i64 0, .int .u8 0], .slice none 0 0] 8 rfl (World.shaped_of_RefB (by kernel_rfl) (by kernel_rfl)) (by kernel_rfl) (by kernel_rfl) (by kernel_rfl) (door_met os _)) ?_
 intro W base args ds gs before hval0 hW _ _ hL _
 have hval : ∀ (j : Nat) t v, Tryz.f8.params[j]? = some t → args[j]? = some v → Value.okWide Tryz.prog W .any base t v := hval0
 have hW' := hW
 obtain ⟨p, q, hA0, hV, rfl, hfz, hnd⟩ := hW
 have hA : DataW.TrodAll enc Tryz.prog W 0 (fun _ => true) true Tryz.f8.params.toList args.toList ds p := hA0
 rw [Tryz.params8] at hA hval
 obtain ⟨v0, vs0, d0, ds0, p0, q0, hargs, rfl, rfl, h0, r0⟩ := trodAll_cons hA
 obtain ⟨v1, vs1, d1, ds1, p1, q1, rfl, rfl, rfl, h1, r1⟩ := trodAll_cons r0
 obtain ⟨rfl, rfl, rfl⟩ := trodAll_nil r1
 obtain rfl : args = #[v0, v1] := by cases args; simp_all
 obtain ⟨rfl, rfl⟩ := trodVars_none hV
 obtain ⟨xb, Nb, cb, bs, a, b, c, f, rfl, hbs, hby, ha, hb, hff⟩ := openDraft13 (hval 0 _ _ rfl rfl) h0
 obtain ⟨acts, hacts, hac⟩ := openActs (hval 1 _ _ rfl rfl) h1
 exact (own_walk xb Nb cb bs a b c f v1 acts W (sg_of_laid hL) hbs hby ha hb hff hacts hac).mono fun e W' ⟨he, hb⟩ => ⟨_, he, Close.law_post laidOut (by kernel_rfl) rfl (by kernel_rfl) Tryz.underlying4 hW' rfl hb⟩
theorem over : Rows.PlanOwnSaid :=
 OpenClaim.holds_of_wide 8 Tryz.f8 rfl rfl rfl rfl rfl rfl rfl ⟨rfl, rfl, rfl, rfl, rfl⟩ rfl rfl rfl rfl rfl (by kernel_rfl) Tryz.func8 (by kernel_rfl)
  (of_decide_eq_true (by kernel_rfl)) (by unfold Func.isWrapper; first | (rw [if_pos (by decide +kernel)]; kernel_rfl) | (rw [if_neg (by decide +kernel)]; exact ⟨rfl, rfl⟩))
  (fun os started H enc _ => lifted os started H enc)
theorem proved : Rows.PlanOwnCardSaid :=
 Claim7.holds_tied_plain_at .later [] [.data, .data] true (true, "e668552edf091549f3a33a44068f668d0797b8d5ae29daa3679ffd99e7045ff1") true
  over (fun _ h => by cases h) (by kernel_rfl) (fun _ h => by cases h) planOwn_row_tie rfl ⟨rfl, rfl⟩ (by kernel_rfl) rfl
  (fun f fn hf hfn => by
   obtain rfl : f = 8 := Option.some.inj ((show Tryz.prog.funcNamed "consign/consignlaw13.PlanOwn" = some 8 by kernel_rfl).symm.trans hf) |>.symm
   obtain rfl : fn = Tryz.f8 := (Option.some.inj (Tryz.func8.symm.trans hfn)).symm
   exact ⟨by kernel_rfl, fun j t ht => by
    rw [Tryz.params8] at ht
    have hm : t ∈ [26, 27] := by simpa using Array.mem_of_getElem? ht
    have hall : ([26, 27].all fun u => !Tryz.prog.wantsStandIn u) = true := by kernel_rfl
    exact (show Tryz.prog.wantsStandIn t = false by simpa using List.all_eq_true.1 hall t hm)⟩)
  (by kernel_rfl)
#print axioms proved
end Go.Proofs.YtlbghdiebjldjaaGreatDoor.planOwn

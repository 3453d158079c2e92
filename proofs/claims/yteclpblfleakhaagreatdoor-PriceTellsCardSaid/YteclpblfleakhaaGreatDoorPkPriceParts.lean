import Derived.Test.YteclpblfleakhaaGreatDoorPkPriceRoute
import Derived.Test.YteclpblfleakhaaGreatDoorPkPlanFresh

namespace Go.Proofs.YteclpblfleakhaaGreatDoor.Price
open Go.RowKit Go.Sort Go.Proofs.YteclpblfleakhaaGreatDoor.Mem Go.Proofs.YteclpblfleakhaaGreatDoor.Route Go.Proofs.YteclpblfleakhaaGreatDoor.When Go.Proofs.YteclpblfleakhaaGreatDoor.Plan
set_option linter.unusedVariables false
structure PartsR (M : Nat) (W : World) (gf gr : Nat) (ut u0 u1 : Value) (v0 v1 : Vh) (l0 l1 : List (Int × Int)) (t : List Rq) : Prop where
 fl : At W gf 32 #[.int .i64 v0.hx, .int .i64 v0.hy, .int .i64 v0.cp, .int .i64 v0.st, .int .i64 v0.en, .int .i64 v1.hx, .int .i64 v1.hy, .int .i64 v1.cp, .int .i64 v1.st, .int .i64 v1.en]
 rt : At W gr 28 #[u0, u1]
 new : M ≤ gf ∧ M ≤ gr
 ot : W.ownsRow M 43 10 ut t.length (When.flatQ t)
 o0 : W.ownsRow M 82 2 u0 l0.length (flatS l0)
 o1 : W.ownsRow M 82 2 u1 l1.length (flatS l1)
 tl : t.length = 8
 ln : l0.length ≤ 4 ∧ l1.length ≤ 4
 nm : Nums l0 ∧ Nums l1
 vdr : v0.dr ∧ v1.dr
 tdr : ∀ q ∈ t, q.dr
set_option maxRecDepth 100000 in
set_option maxHeartbeats 4000000 in
theorem parts14_any (xb : Option Addr) (Nb cb : Nat) (bs : List Int) (a b c f : Int) (w : World) (hrow : RowB w.heap.size w (.slice xb Nb cb) 1 (bs.map byV)) (hby : ∀ x ∈ bs, 0 ≤ x ∧ x < 256) (ha : 0 ≤ a ∧ a < 256) (hb : 0 ≤ b ∧ b < 256) (hf : 0 ≤ f ∧ f < 256) :
 Calls Tryz.prog 5 #[.agg #[.slice xb Nb cb, .int .u8 a, .int .u8 b, .int .i64 c, .int .u8 f]] w fun e w' =>
  (∃ gf gr ut u0 u1 v0 v1 l0 l1 t, e = .returned (.tuple #[.slice (some ⟨gf, 0, none⟩) 2 2, .slice (some ⟨gr, 0, none⟩) 2 2, ut]) ∧ PartsR w.heap.size w' gf gr ut u0 u1 v0 v1 l0 l1 t) ∧ Below w.heap.size w w' := by
 obtain ⟨q, hq⟩ : ∃ q, w.heap.size = q := ⟨_, rfl⟩
 obtain ⟨w1, hw1⟩ : ∃ w1, w.alloc (.cells #[.slice xb Nb cb, .int .u8 a, .int .u8 b, .int .i64 c, .int .u8 f] 26) = w1 := ⟨_, rfl⟩
 have hs1 : w1.heap.size = q + 1 := by rw [← hw1]; simp [hq]
 have hd1 : At w1 q 26 #[.slice xb Nb cb, .int .u8 a, .int .u8 b, .int .i64 c, .int .u8 f] := by rw [← hw1]; exact At.new_ _ _ _ hq.symm
 have hb1 : Below q w w1 := by rw [← hw1]; exact (Below.refl _ _).alloc (by omega) _
 obtain ⟨w2, hw2⟩ : ∃ w2, w1.alloc (.cells #[.slice xb Nb cb, .int .u8 a, .int .u8 b, .int .i64 0] 24) = w2 := ⟨_, rfl⟩
 have hs2 : w2.heap.size = q + 2 := by rw [← hw2]; simp [hs1]
 have hd2 : At w2 q 26 #[.slice xb Nb cb, .int .u8 a, .int .u8 b, .int .i64 c, .int .u8 f] := by rw [← hw2]; exact hd1.alloc _
 have hb2 : Below q w w2 := by rw [← hw2]; exact hb1.alloc (by omega) _
 have hD2 : DraftAt w2 (q + 1) (.slice xb Nb cb) bs a b 0 := by
  refine ⟨?_, ?_, hby, ha, hb⟩
  · rw [← hw2]; exact At.new_ _ _ _ hs1.symm
  · rw [hq] at hrow
    exact (hrow.keep hb2 (Nat.le_refl _)).more (by omega)
 obtain ⟨n, hn⟩ : ∃ n : Nat, f % 3 = n := ⟨(f % 3).toNat, by omega⟩
 obtain ⟨m, hm⟩ : ∃ m : Nat, f / 3 % 3 = m := ⟨(f / 3 % 3).toNat, by omega⟩
 have hn2 : n ≤ 2 := by omega
 have hm2 : m ≤ 2 := by omega
 obtain ⟨hf1, hf2⟩ := hf
 have a0 := hd1.cell 0
 have a1 := hd1.cell 1
 have a2 := hd1.cell 2
 simp at a0 a1 a2
 have hq' := Lib.hid hq
 have hw1' := Lib.hid hw1
 have hw2' := Lib.hid hw2
 have hs1' := Lib.hid hs1
 have hcQ := drequests_any w2 (q + 1) _ bs a b 0 8 hD2 (by omega) (by omega)
 rw [hs2] at hcQ
 have hb2' := Lib.hid hb2
 have hd2' := Lib.hid hd2
 clear hrow hby hb hw1 hw2 hq hs1 hd1 hb1 hD2 hb2 hd2
 go_enter Tryz.func5, Tryz.ntmps5
 go_upto_region 1 with fail
 try simp only [hq'.out]
 try rw [hw1'.out]
 go_upto_region 2 with fail
 try simp only [hs1'.out]
 try rw [hw2'.out]
 go_wp2_with fail
 refine hcQ.mono ?_
 clear hcQ a0 a1 a2
 rintro e w3 ⟨⟨ut, t, rfl, hown, htl, hch⟩, hD3, hg3⟩
 have hd3 := At.grownOff hd2'.out hg3 (by omega)
 have hB3 := Lib.hid (hb2'.out.grown hg3 (by omega) (fun r e => by cases e; omega))
 have hs3 : q + 2 ≤ w3.heap.size := by have := hg3.size; omega
 obtain ⟨xt, ct, rfl, _, _⟩ := owns_slice hown
 have hown3 := Lib.hid hown
 have htl' := Lib.hid htl
 have hch' := Lib.hid hch
 have hd3' := Lib.hid hd3
 have b4 := hd3.cell 4
 simp at b4
 have hqw : q < w3.heap.size := by omega
 have hcV := dvehicle_any w3 (q + 1) _ bs a b (0 + 8 * (8 : Nat)) hD3 (by omega)
 clear hg3 hown htl hch hD3 hd3
 go_wp2_with fail
 refine hcV.mono ?_
 clear hcV b4
 rintro e w4 ⟨⟨v0, rfl, hv0⟩, hD4, hg4⟩
 have hown4 := Lib.hid (owns_old hown3.out hg4 (fun r e => .inl (by cases e; omega)))
 have hd4 := Lib.hid (At.grownOff hd3'.out hg4 (by omega))
 have hB4 := Lib.hid (hB3.out.grown hg4 (by omega) (fun r e => by cases e; omega))
 have hs4 : q + 2 ≤ w4.heap.size := Nat.le_trans hs3 hg4.size
 have hv0' := Lib.hid hv0
 have hcV := dvehicle_any w4 (q + 1) _ bs a b (0 + 8 * (8 : Nat) + 5) hD4 (by omega)
 clear hg4 hD4 hv0 hown3 hB3 hd3' hqw
 go_wp2_with fail
 refine hcV.mono ?_
 clear hcV
 rintro e w5 ⟨⟨v1, rfl, hv1⟩, hD5, hg5⟩
 have hown5 := Lib.hid (owns_old hown4.out hg5 (fun r e => .inl (by cases e; omega)))
 have hd5 := Lib.hid (At.grownOff hd4.out hg5 (by omega))
 have hB5 := Lib.hid (hB4.out.grown hg5 (by omega) (fun r e => by cases e; omega))
 have hs5 : q + 2 ≤ w5.heap.size := Nat.le_trans hs4 hg5.size
 have hv1' := Lib.hid hv1
 have hD5' := Lib.hid hD5
 clear hg5 hD5 hv1 hown4 hB4 hd4
 go_upto_region 6 with fail
 obtain ⟨gf, hgf⟩ : ∃ g, w5.heap.size = g := ⟨_, rfl⟩
 obtain ⟨w6, hw6⟩ : ∃ w6, w5.alloc (.cells #[.int .i64 v0.hx, .int .i64 v0.hy, .int .i64 v0.cp, .int .i64 v0.st, .int .i64 v0.en, .int .i64 v1.hx, .int .i64 v1.hy, .int .i64 v1.cp, .int .i64 v1.st, .int .i64 v1.en] 32) = w6 := ⟨_, rfl⟩
 have hP6 : At w6 gf 32 #[.int .i64 v0.hx, .int .i64 v0.hy, .int .i64 v0.cp, .int .i64 v0.st, .int .i64 v0.en, .int .i64 v1.hx, .int .i64 v1.hy, .int .i64 v1.cp, .int .i64 v1.st, .int .i64 v1.en] := by rw [← hw6]; exact At.new_ _ _ _ hgf.symm
 rw [hw6, hgf]
 have hD6 : DraftAt w6 (q + 1) (.slice xb Nb cb) bs a b (0 + 8 * (8 : Nat) + 5 + 5) := by rw [← hw6]; exact hD5'.out.alloc _
 have hd6 : At w6 q 26 #[.slice xb Nb cb, .int .u8 a, .int .u8 b, .int .i64 c, .int .u8 f] := by rw [← hw6]; exact hd5.out.alloc _
 have hB6 : Hid (Below q w w6) := Lib.hid (by rw [← hw6]; exact hB5.out.alloc (by omega) _)
 have hown6 : Hid (w6.ownsRow (q + 2) 43 10 (.slice xt t.length ct) t.length (When.flatQ t)) := Lib.hid (by rw [← hw6]; exact hown5.out.alloc _)
 have hs6 : w6.heap.size = gf + 1 := by rw [← hw6]; simp [hgf]
 have hgq : q + 2 ≤ gf := by omega
 have hcR := droute_from w6 (q + 1) _ bs a b (0 + 8 * (8 : Nat) + 5 + 5) n 0 ⟨by omega, by omega⟩ hD6 (by omega) (by omega)
 rw [Int.zero_add] at hcR
 have hP6' := Lib.hid hP6
 have hd6' := Lib.hid hd6
 have b4 := hd6.cell 4
 simp at b4
 have hqw : q < w6.heap.size := by omega
 clear hD6 hd6 hP6 hw6 hgf hown5 hB5 hd5 hD5' hs5 hs4 hs3
 go_wp2_with fail
 refine hcR.mono ?_
 clear hcR b4
 rintro e w7 ⟨⟨u0, l0, rfl, hown, hl0, hnm⟩, hD7, hg7⟩
 have hB7 := Lib.hid (hB6.out.grown hg7 (by omega) (fun r e => by cases e; omega))
 have hown7 := Lib.hid (owns_old hown6.out hg7 (fun r e => .inl (by cases e; omega)))
 have hP7 := Lib.hid (At.grownOff hP6'.out hg7 (by omega))
 have hd7 := At.grownOff hd6'.out hg7 (by omega)
 have hs7 : gf + 1 ≤ w7.heap.size := by have := hg7.size; omega
 rw [hs6] at hown
 obtain ⟨x0, c0, rfl, -, -⟩ := owns_slice hown
 have ho7 := Lib.hid hown
 have hl0' := Lib.hid hl0
 have hnm0 := Lib.hid hnm
 have hd7' := Lib.hid hd7
 have b4 := hd7.cell 4
 simp at b4
 have hqw7 : q < w7.heap.size := by omega
 have hcR := droute_from w7 (q + 1) _ bs a b (0 + 8 * (8 : Nat) + 5 + 5 + 2 * n) m n ⟨by omega, by omega⟩ hD7 (by omega) (by omega)
 clear hg7 hD7 hown hl0 hnm hd7 hown6 hB6 hP6' hd6' hqw
 go_wp2_with fail
 refine hcR.mono ?_
 clear hcR b4
 rintro e w8 ⟨⟨u1, l1, rfl, hown, hl1, hnm⟩, hD8, hg8⟩
 have hB8 := Lib.hid (hB7.out.grown hg8 (by omega) (fun r e => by cases e; omega))
 have hown8 := Lib.hid (owns_old hown7.out hg8 (fun r e => .inl (by cases e; omega)))
 have ho8 := Lib.hid (owns_old ho7.out hg8 (fun r e => .inl (by cases e; omega)))
 have hP8 := Lib.hid (At.grownOff hP7.out hg8 (by omega))
 have hs8 : gf + 1 ≤ w8.heap.size := Nat.le_trans hs7 hg8.size
 obtain ⟨x1, c1, rfl, -, -⟩ := owns_slice hown
 have hown1 := Lib.hid hown
 have hl1' := Lib.hid hl1
 have hnm1 := Lib.hid hnm
 clear hg8 hD8 hown hl1 hnm hown7 ho7 hP7 hd7' hqw7 hB7
 obtain ⟨gr, hgr⟩ : ∃ g, w8.heap.size = g := ⟨_, rfl⟩
 obtain ⟨w9, hw9⟩ : ∃ w9, w8.alloc (.cells #[.slice x0 l0.length c0, .slice x1 l1.length c1] 28) = w9 := ⟨_, rfl⟩
 have hw9' := Lib.hid hw9
 have hgr' := Lib.hid hgr
 have hfin : Hid (PartsR w.heap.size w9 gf gr (.slice xt t.length ct) (.slice x0 l0.length c0) (.slice x1 l1.length c1) v0 v1 l0 l1 t) := Lib.hid (by
  rw [hq'.out, ← hw9]
  exact ⟨hP8.out.alloc _, At.new_ _ _ _ hgr.symm, ⟨by omega, by omega⟩, owns_more (hown8.out.alloc _) (by omega), owns_more (ho8.out.alloc _) (by omega), owns_more (hown1.out.alloc _) (by omega), htl'.out, ⟨by rw [hl0'.out]; omega, by rw [hl1'.out]; omega⟩, ⟨hnm0.out, hnm1.out⟩, ⟨hv0'.out, hv1'.out⟩, hch'.out⟩)
 have hB9 : Hid (Below w.heap.size w w9) := Lib.hid (by rw [hq'.out, ← hw9]; exact hB8.out.alloc (by omega) _)
 clear hw9 hgr hown8 ho8 hP8 hB8 hown1
 go_wp2
 try rw [hgr'.out]
 try rw [hw9'.out]
 refine bodyPost_ret (v := .tuple #[.slice (some ⟨gf, 0, none⟩) 2 2, .slice (some ⟨gr, 0, none⟩) 2 2, .slice xt t.length ct]) (by simp [results, Tryz.results5, go_sem]) rfl ?_
 exact ⟨⟨_, _, _, _, _, _, _, _, _, _, rfl, hfin.out⟩, hB9.out⟩
end Go.Proofs.YteclpblfleakhaaGreatDoor.Price
namespace Go.Proofs.YteclpblfleakhaaGreatDoor.Plan
open Go.RowKit Go.Sort Go.Shelf Go.Proofs.YteclpblfleakhaaGreatDoor.Mem Go.Proofs.YteclpblfleakhaaGreatDoor.Route Go.Proofs.YteclpblfleakhaaGreatDoor.When Go.Proofs.YteclpblfleakhaaGreatDoor.Load Go.Proofs.YteclpblfleakhaaGreatDoor.Ins Go.Proofs.YteclpblfleakhaaGreatDoor.Cheap
set_option linter.unusedVariables false
theorem row_flatP {B : Nat} {W : World} {b : Addr} {N cap : Nat} {l : List (Int × Int)} (h : Row B W (.slice (some b) N cap) l) : ∀ j u, (flatS l)[j]? = some u → W.cell? (b.add j) = some u := by
 intro j u hj
 obtain ⟨i, k, r, e, hr, hu⟩ := flat_of (m := 2) (by decide) (fun r hr => by obtain ⟨s, _, rfl⟩ := List.mem_map.1 hr; rfl) j u hj
 obtain ⟨g, o, hx, hg, hc⟩ := RowB.row h hr
 cases hx
 have := hc k u hu
 rw [add_at, e, show o + (i * 2 + k) = o + i * 2 + k by omega]
 exact this
theorem info_req13 : (Tryz.prog.info? 43).map (fun i => (i.zero, i.size, i.bytes)) = some (some (.agg #[.int .i64 0, .int .i64 0, .int .i64 0, .int .i64 0, .int .i64 0, .int .i64 0, .int .i64 0, .int .i64 0, .int .i64 0, .int .i64 0]), 10, 80) := by kernel_rfl
theorem info_tour : (Tryz.prog.info? 74).map (fun i => (i.zero, i.size, i.bytes)) = some (some (.agg #[.int .i64 0, .int .i64 0, .int .i64 0, .int .i64 0, .int .i64 0, .slice none 0 0]), 6, 64) := by kernel_rfl
set_option maxRecDepth 100000 in
set_option maxHeartbeats 1000000 in
theorem CloneS_any (v : Value) (l : List (Int × Int)) (hl : l.length ≤ 1000000) (w : World) (h : Row w.heap.size w v l) :
 Calls Tryz.prog 23 #[v] w fun e w' => (∃ v', e = .returned v' ∧ w'.ownsRow w.heap.size 82 2 v' l.length (flatS l)) ∧ Below w.heap.size w w' := by
 obtain ⟨i0, hi, hz0, hz1, hz2⟩ := info_parts info_stop
 obtain ⟨x, N, cap, rfl, hN, h0, hc1, hc2⟩ := h.opened
 have hN0 := hN.out
 rw [hN0] at hl
 have q22 : ∀ (w : World) (a : Option Addr) (n c n' c' : Nat), (binOp .eql 28 (.slice a n c) (.slice none n' c')).run Tryz.prog w = .ok (.bool a.isNone) w := fun w a n c n' c' => Lib.run_eql_slice_nil w _ _ a n c n' c' Tryz.underlying28
 cases x with
 | none =>
  obtain ⟨hz, hz2⟩ := h0.out rfl
  have hl0 : l = [] := List.eq_nil_of_length_eq_zero (by omega)
  subst hl0
  simp at hN0
  subst hN0
  subst hz2
  clear h h0 hN
  go_enter Tryz.func23, Tryz.ntmps23
  go_wp2
  go_ret
  exact ⟨⟨_, rfl, World.ownsRow_nil _ _ _ _⟩, Below.refl _ _⟩
 | some b =>
  have h' := Lib.hid h
  clear h h0
  go_enter Tryz.func23, Tryz.ntmps23
  go_wp2_with (at_builtin; refine wpList_append_fresh rfl _ _ 28 rfl w.heap.size 82 i0 (.agg #[.int .i64 0, .int .i64 0]) 2 16 Tryz.underlying28 hi hz0 hz1 hz2 rfl (by decide) w.heap.size rfl (ownsEmptyQ rfl (Nat.le_refl _)) (.slice (some b) N cap) N ⟨_, _, rfl⟩ (.inr ⟨_, _, _, rfl⟩) (flatS l) rfl (by rw [flatS_length, hN.out]) (fun ad c e j u hj => by cases e; exact Lib.cell?_alloc_some _ (row_flatP h'.out j u hj)) flatS_one (by unfold maxLen; omega) (by omega) (by simp) ?_; intro v7 w7 hv7 hb7)
  have hf := Lib.hid (show w7.ownsRow w.heap.size 82 2 v7 l.length (flatS l) by rw [hN.out]; exact hv7)
  have hB := Lib.hid (((Below.refl _ w).alloc (Nat.le_refl _) (.cells #[] 82)).trans (hb7.mono (by simp)))
  clear hv7 hb7
  go_ret
  exact ⟨⟨_, rfl, hf.out⟩, hB.out⟩
set_option maxRecDepth 100000 in
set_option maxHeartbeats 1000000 in
theorem CloneQ_any (v : Value) (l : List Rq) (hl : l.length ≤ 1000000) (w : World) (h : Rqs w.heap.size w v l) (hp : Plain v) :
 Calls Tryz.prog 30 #[v] w fun e w' => (∃ v', e = .returned v' ∧ w'.ownsRow w.heap.size 43 10 v' l.length (flatQ l)) ∧ Below w.heap.size w w' := by
 obtain ⟨i0, hi, hz0, hz1, hz2⟩ := info_parts info_req13
 obtain ⟨x, N, cap, rfl, hN0, hc1, hc2, h0⟩ := Rqs.opened h
 have hN := Lib.hid hN0
 rw [hN0] at hl
 have q22 : ∀ (w : World) (a : Option Addr) (n c n' c' : Nat), (binOp .eql 37 (.slice a n c) (.slice none n' c')).run Tryz.prog w = .ok (.bool a.isNone) w := fun w a n c n' c' => Lib.run_eql_slice_nil w _ _ a n c n' c' Tryz.underlying37
 cases x with
 | none =>
  have hl0 : l = [] := h0 rfl
  subst hl0
  simp at hN0
  subst hN0
  clear h h0 hN hp
  go_enter Tryz.func30, Tryz.ntmps30
  go_wp2
  go_ret
  exact ⟨⟨_, rfl, World.ownsRow_nil _ _ _ _⟩, Below.refl _ _⟩
 | some b =>
  have h' := Lib.hid h
  clear h h0 hp hN0
  go_enter Tryz.func30, Tryz.ntmps30
  go_wp2_with (at_builtin; refine wpList_append_fresh rfl _ _ 37 rfl w.heap.size 43 i0 (.agg #[.int .i64 0, .int .i64 0, .int .i64 0, .int .i64 0, .int .i64 0, .int .i64 0, .int .i64 0, .int .i64 0, .int .i64 0, .int .i64 0]) 10 80 Tryz.underlying37 hi hz0 hz1 hz2 rfl (by decide) w.heap.size rfl (ownsEmptyQ rfl (Nat.le_refl _)) (.slice (some b) N cap) N ⟨_, _, rfl⟩ (.inr ⟨_, _, _, rfl⟩) (flatQ l) rfl (by rw [flatQ_length, hN.out]) (fun ad c e j u hj => by cases e; exact Lib.cell?_alloc_some _ (rqs_flat h'.out j u hj)) flatQ_one (by unfold maxLen; omega) (by omega) (by simp) ?_; intro v7 w7 hv7 hb7)
  have hf := Lib.hid (show w7.ownsRow w.heap.size 43 10 v7 l.length (flatQ l) by rw [hN.out]; exact hv7)
  have hB := Lib.hid (((Below.refl _ w).alloc (Nat.le_refl _) (.cells #[] 43)).trans (hb7.mono (by simp)))
  clear hv7 hb7
  go_ret
  exact ⟨⟨_, rfl, hf.out⟩, hB.out⟩
end Go.Proofs.YteclpblfleakhaaGreatDoor.Plan
namespace Go.Proofs.YteclpblfleakhaaGreatDoor.Plan
open Go.RowKit Go.Sort Go.Proofs.YteclpblfleakhaaGreatDoor.Mem Go.Proofs.YteclpblfleakhaaGreatDoor.Route Go.Proofs.YteclpblfleakhaaGreatDoor.When Go.Proofs.YteclpblfleakhaaGreatDoor.Load Go.Proofs.YteclpblfleakhaaGreatDoor.Ins Go.Proofs.YteclpblfleakhaaGreatDoor.Cheap
set_option linter.unusedVariables false
def RtsK (M : Nat) (W : World) (us : List Value) (S : St) : Prop := ∀ (i : Nat) u l, us[i]? = some u → S.rows[i]? = some l → W.ownsRow M 82 2 u l.length (flatS l)
set_option maxRecDepth 100000 in
set_option maxHeartbeats 4000000 in
theorem Routes_any {D G : Nat → Prop} {p : Nat} {S : St} (w : World) (h : PlanAt D G w p S) (ho : Ok S) :
 Calls Tryz.prog 10 #[.pointer (some ⟨p, 0, none⟩)] w fun e w' => (∃ u, e = .returned u ∧ ∃ us, RwsO w.heap.size w' u us S.rows) ∧ Below w.heap.size w w' := by
 obtain ⟨i0, hi, hz0, hz1, hz2⟩ := info_parts info_stops
 obtain ⟨gt, gm, vt, cap, us, h⟩ := h
 obtain ⟨hc1, hc2⟩ := h.bd
 unfold maxLen at hc2
 obtain ⟨N, hN0⟩ : ∃ N, S.vs.length = N := ⟨_, rfl⟩
 have hN4 : N ≤ 4 := by rw [← hN0]; exact ho.cnt.2
 have hbx := h.box
 rw [hN0] at hbx hc1
 have b0 := hbx.cell 0
 simp at b0
 have hp := h.box.inside
 have h' := Lib.hid h
 have ho' := Lib.hid ho
 have hbx' := Lib.hid hbx
 have hN := Lib.hid hN0
 obtain ⟨M, hM⟩ : ∃ M, w.heap.size = M := ⟨_, rfl⟩
 have hM' := Lib.hid hM
 rw [hM] at hp ⊢
 clear h ho hN0 hbx hM
 go_enter Tryz.func10, Tryz.ntmps10
 go_wp2
 go_loopw [3, 13] (fun u i wr => ∃ (k : Nat) (xs : List Value), k ≤ N ∧ i = .int .i64 k ∧ xs.length = k ∧ wr.ownsRow M 28 1 u k xs ∧ RtsK M wr xs S ∧ Below M w wr)
  (fun _ c _ => N - (intOf c).toNat)
 case atStart => exact ⟨0, [], Nat.zero_le _, rfl, rfl, World.ownsRow_nil _ _ _ _, fun i u l hu => by simp at hu, Below.refl _ _⟩
 case round =>
  obtain ⟨k, xs, hk, rfl, hxl, hown, hrts, hbw⟩ := hrel
  have hA := h'.out.on (by rw [hM'.out]; exact hbw)
  clear b0
  by_cases hlt : k < N
  · obtain ⟨v, hv⟩ : ∃ v, S.vs[k]? = some v := ⟨S.vs[k]'(by rw [hN.out]; exact hlt), List.getElem?_eq_getElem _⟩
    obtain ⟨l, hl⟩ : ∃ l, S.rows[k]? = some l := ⟨S.rows[k]'(by rw [ho'.out.len, hN.out]; exact hlt), List.getElem?_eq_getElem _⟩
    obtain ⟨u, hu, q0, q1, q2, q3, q4, q5⟩ := hA.cells hv
    have hrow := (hA.rows k u l hu hl).1
    have hgt := hA.gtIn
    obtain ⟨hd, -, -, -⟩ := ho'.out.dr k v l hv hl
    have hl16 : l.length ≤ 1000000 := by have := hd.hn; omega
    have hkF : (k : Int) < (N : Int) := by omega
    have hkN := Lib.hid hlt
    obtain ⟨xu, Nu, cu, rfl, -⟩ := Row.opened (show Row wr.heap.size wr u l from hrow)
    obtain ⟨w1, hw1⟩ : ∃ w1, wr.alloc (.cells #[.int .i64 v.hx, .int .i64 v.hy, .int .i64 v.cp, .int .i64 v.st, .int .i64 v.en, .slice xu Nu cu] 74) = w1 := ⟨_, rfl⟩
    obtain ⟨q, hq⟩ : ∃ q, wr.heap.size = q := ⟨_, rfl⟩
    have hA1 : At w1 q 74 #[.int .i64 v.hx, .int .i64 v.hy, .int .i64 v.cp, .int .i64 v.st, .int .i64 v.en, .slice xu Nu cu] := by rw [← hw1]; exact At.new_ _ _ _ hq.symm
    have hb1 : Below wr.heap.size wr w1 := by rw [← hw1]; exact (Below.refl _ _).alloc (Nat.le_refl _) _
    have hC := CloneS_any _ l hl16 w1 (Row.on (show Row wr.heap.size wr _ l from hrow) hb1)
    have ho1 := Lib.hid (owns_below hown hb1)
    have hr1 : Hid (RtsK M w1 xs S) := Lib.hid (fun i u l hu hl => owns_below (hrts i u l hu hl) hb1)
    have hMr : M ≤ wr.heap.size := by have := hbw.size; have := hM'.out; omega
    have hB1 := Lib.hid (hbw.trans (hb1.mono hMr))
    have hM1 : M ≤ w1.heap.size := Nat.le_trans hMr hb1.size
    have a5 := hA1.cell 5
    simp at a5
    have hqi := hA1.inside
    have hbo' := Lib.hid hbw
    have hw1' := Lib.hid hw1
    have hq' := Lib.hid hq
    have hl' := Lib.hid hl
    have hxl' := Lib.hid hxl
    clear hv hl hu hrow hd hbw hA hw1 hq hb1 hA1 hown hrts hxl
    have b0 := (hbx'.out.keep hbo'.out (by rw [← hM'.out]; exact hbx'.out.inside)).cell 0
    simp at b0
    have hpo := (hbx'.out.keep hbo'.out (by rw [← hM'.out]; exact hbx'.out.inside)).inside
    go_upto_region 7 with fail
    try simp only [hq'.out]
    rw [hw1'.out]
    clear q0 q1 q2 q3 q4 q5 b0
    go_wp2_with fail
    refine hC.mono ?_
    clear hC a5
    rintro e w2 ⟨⟨u2, rfl, hu2⟩, hb2⟩
    obtain ⟨y2, c2, rfl, -, -⟩ := owns_slice hu2
    have ho2 := owns_below ho1.out hb2
    have hr2 : Hid (RtsK M w2 xs S) := Lib.hid (fun i u l hu hl => owns_below (hr1.out i u l hu hl) hb2)
    have hu2' := Lib.hid (owns_more hu2 hM1)
    have hB2 := Lib.hid (hB1.out.trans (hb2.mono hM1))
    have hM2 : M ≤ w2.heap.size := Nat.le_trans hM1 hb2.size
    have hrowm := Lib.hid (owns_row ho2)
    clear hu2 hb2
    go_wp2_with (at_builtin; refine wpList_append_own _ rfl _ _ 36 rfl M 28 i0 (.slice none 0 0) 1 24 Tryz.underlying36 hi hz0 hz1 hz2 rfl (by decide) _ _ _ rfl (ho2.alloc _) ⟨w2.heap.size, 0, none⟩ 1 1 [.slice y2 l.length c2] rfl rfl (cell_one_new _ _ _) (by simp [Value.oneCell']) (by unfold maxLen; omega) (by omega) (by simp; omega) ?_; intro v7 w7 hown7 hgrow7 hnil7)
    have hB7 : Below M w w7 := (hB2.out.alloc hM2 _).grown hgrow7 (by simp; omega) hrowm.out
    have hkeep : ∀ {u l}, w2.ownsRow M 82 2 u l.length (flatS l) → w7.ownsRow M 82 2 u l.length (flatS l) := fun {u l} ho => by
     refine World.ownsRow.kept (ho.alloc _) hgrow7 ?_
     rcases hb9 : u.ownBlock with _ | g9
     · exact .inl rfl
     · right
       intro e9
       exact own_ne ho ho2 (by decide) g9 hb9 e9.symm
    go_roundw
    case rel =>
     refine ⟨k + 1, xs ++ [.slice y2 l.length c2], hkN.out, by go_num, by simp [hxl'.out], hown7, fun i u l' hu hl2 => ?_, hB7⟩
     by_cases hik : i < k
     · rw [List.getElem?_append_left (by rw [hxl'.out]; exact hik)] at hu
       exact hkeep (hr2.out i u l' hu hl2)
     · rw [List.getElem?_append_right (by rw [hxl'.out]; omega), hxl'.out] at hu
       have h0 : i - k = 0 := by
        have := (List.getElem?_eq_some_iff.1 hu).1
        simp at this
        omega
       obtain rfl : i = k := by omega
       rw [h0] at hu
       obtain rfl := Option.some.inj hu
       obtain rfl : l = l' := Option.some.inj (hl'.out.symm.trans hl2)
       exact hkeep hu2'.out
    case measure => simp [intOf]; omega
  · obtain rfl : k = N := by omega
    obtain ⟨y, c, rfl, -, -⟩ := owns_slice hown
    have hlen := Lib.hid (show S.rows.length = k by rw [ho'.out.len, hN.out])
    have hfin : Hid (RwsO M wr (.slice y k c) xs S.rows) := Lib.hid ⟨by rw [hlen.out]; exact hown, hrts⟩
    clear hA hown hrts
    go_wp2
    go_ret
    exact ⟨⟨_, rfl, _, hfin.out⟩, hbw⟩
end Go.Proofs.YteclpblfleakhaaGreatDoor.Plan
namespace Go.Proofs.YteclpblfleakhaaGreatDoor.Plan
open Go.RowKit Go.Proofs.YteclpblfleakhaaGreatDoor.Mem Go.Proofs.YteclpblfleakhaaGreatDoor.Route Go.Proofs.YteclpblfleakhaaGreatDoor.When Go.Proofs.YteclpblfleakhaaGreatDoor.Load Go.Proofs.YteclpblfleakhaaGreatDoor.Ins
set_option linter.unusedVariables false
theorem whF_set {q : Int} {m : List (Int × Int)} : ∀ {rows : List (List (Int × Int))} {i k : Nat} {l : List (Int × Int)}, rows[i]? = some l → noR q m = noR q l → whF q k (rows.set i m) = whF q k rows
 | [], i, k, l, h, _ => by simp at h
 | l0 :: rs, 0, k, l, h, hn => by
  simp at h
  subst h
  simp [whF, hn]
 | l0 :: rs, i + 1, k, l, h, hn => by
  simp at h
  have := whF_set (k := k + 1) h hn
  simp [whF, this]
theorem where_set {q : Int} {m : List (Int × Int)} {rows : List (List (Int × Int))} {i : Nat} {l : List (Int × Int)} (h : rows[i]? = some l) (hn : noR q m = noR q l) : whereV (rows.set i m) q = whereV rows q := whF_set h hn
theorem whO_of {S S' : St} {q : Int} (h : whereV S'.rows q = whereV S.rows q) : whO S' q = whO S q := by unfold whO; rw [h]
theorem whO_put {S : St} {r : Int} {i : Nat} {v : Vh} {l m : List (Int × Int)} (p : PutAt S r i v l m) (hw : whereV S.rows r < 0) : ∀ q, whO (putS S r) q = (fun q => if q = r then some (i : Int) else whO S q) q := by
 intro q
 by_cases hq : q = r
 · subst hq
   have h1 := p.where_ hw
   rw [whO_some (by omega), h1]
   simp
 · simp only [if_neg hq]
   refine whO_of ?_
   rw [p.put]
   exact where_set p.lat (by rw [p.row, noR_moreL p.may]; simp [hq])
theorem whO_take {S : St} (h : Ok S) {r : Int} {i : Nat} {v : Vh} {l : List (Int × Int)} (p : TakeAt S r i v l) : ∀ q, whO (takeS S r) q = (fun q => if q = r then none else whO S q) q := by
 intro q
 by_cases hq : q = r
 · subst hq
   have h1 := take_gone h q
   rw [whO_none (by omega)]
   simp
 · simp only [if_neg hq]
   refine whO_of ?_
   rw [p.take]
   exact where_set p.lat (by rw [noR_woL]; simp [hq])
structure MidAt (D G : Nat → Prop) (W : World) (p gt gm : Nat) (vt : Value) (cap : Nat) (us : List Value) (S S' : St) : Prop where
 box : At W p 78 #[.slice (some ⟨gt, 0, none⟩) S'.vs.length cap, vt, .map (some gm)]
 t : RowD D W vt 10 (S'.t.map rqV)
 own : W.ownsRow 0 74 6 (.slice (some ⟨gt, 0, none⟩) S'.vs.length cap) S'.vs.length (toursF S'.vs us)
 ulen : us.length = S'.vs.length
 rows : ∀ (i : Nat) u l, us[i]? = some u → S'.rows[i]? = some l → RowD D W u 2 (l.map stV)
 map : MapAt W gm 1000 (whO S)
 pd : ¬ D p
 gT : G gt
 gM : G gm
 sub : ∀ k, G k → D k
 lt : ∀ k, D k → k < W.heap.size
 ne : gt ≠ gm
section
variable {D G : Nat → Prop} {W W' : World} {p gt gm : Nat} {vt : Value} {cap : Nat} {us : List Value} {S S' : St}
theorem ProgAt.ne (h : ProgAt D G W p gt gm vt cap us S) : gt ≠ gm := fun e => own_map_ne h.own h.map (by rw [e]; rfl)
theorem MidAt.on (h : MidAt D G W p gt gm vt cap us S S') (hb : Below W.heap.size W W') : MidAt D G W' p gt gm vt cap us S S' :=
 have hc : Chg (fun _ => False) W W' := Chg.of_below hb
 ⟨hc.at_ h.box (fun he => he.elim), h.t.chg hc (fun k he => he.elim), hc.owns h.own (fun g e he => he.elim), h.ulen, fun i u l hu hl => (h.rows i u l hu hl).chg hc (fun k he => he.elim), h.map.same (hc.block gm h.map.inside (fun he => he.elim)), h.pd, h.gT, h.gM, h.sub, fun k hd => Nat.lt_of_lt_of_le (h.lt k hd) hc.size, h.ne⟩
theorem ProgAt.mid (h : ProgAt D G W p gt gm vt cap us S) {i : Nat} (hi : i < S.vs.length) {u : Value} {m : List (Int × Int)} (hm : RowD D W u 2 (m.map stV)) (hr : S.rows.length = S.vs.length) :
 MidAt D G (W.setCell ⟨gt, i * 6 + 5, none⟩ u) p gt gm vt cap (us.set i u) S { S with rows := S.rows.set i m } := by
 obtain ⟨h1, h2, h3, h4, h5⟩ := h.set hi hm hr
 exact ⟨h1, h2, h3, by simpa using h.ulen, h4, h5 h.ne, h.pd, h.gT, h.gM, h.sub, fun k hd => by simpa using h.lt k hd, h.ne⟩
theorem MidAt.done (h : MidAt D G W p gt gm vt cap us S S') (ho : Ok S') {n : Nat} (hg : W.grownBy W' (some gm)) (hm : MapAt W' gm n (whO S')) : ProgAt D G W' p gt gm vt cap us S' := by
 have hc : Chg (fun k => k = gm) W W' := Chg.of_grown hg (fun r e => by cases e; rfl)
 have hE : ∀ k, k = gm → D k := fun k e => by rw [e]; exact h.sub _ h.gM
 exact ⟨hc.at_ h.box (fun e => h.pd (hE _ e)), h.t.chg hc hE, hc.owns h.own (fun g e he => by simp [Value.ownBlock] at e; exact h.ne (e.trans he)), h.ulen, fun i u l hu hl => (h.rows i u l hu hl).chg hc hE, whO_tight ho hm, h.pd, h.gT, h.gM, h.sub, fun k hd => Nat.lt_of_lt_of_le (h.lt k hd) hc.size⟩
theorem MidAt.bd (h : MidAt D G W p gt gm vt cap us S S') : S'.vs.length ≤ cap ∧ cap ≤ maxLen := by
 obtain ⟨hl, ⟨h1, _⟩ | ⟨g, c, cur, e, hb, hg, hc1, hc2, hs, ht⟩⟩ := h.own
 · cases h1
 · cases e; exact ⟨hc1, hc2⟩
end
end Go.Proofs.YteclpblfleakhaaGreatDoor.Plan

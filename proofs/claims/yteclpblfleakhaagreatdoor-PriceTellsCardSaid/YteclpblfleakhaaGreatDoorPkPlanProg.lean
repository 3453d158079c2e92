import Derived.Test.YteclpblfleakhaaGreatDoorPkPlanPNew
import Derived.Test.YteclpblfleakhaaGreatDoorPkPlanPPut
import Derived.Test.YteclpblfleakhaaGreatDoorTie
import Derived.OpenShut
import Derived.Test.YteclpblfleakhaaGreatDoorCards
import Derived.LaidMore

namespace Go.Proofs.YteclpblfleakhaaGreatDoor.Plan
open Go.RowKit Go.Proofs.YteclpblfleakhaaGreatDoor.Mem Go.Proofs.YteclpblfleakhaaGreatDoor.Route Go.Proofs.YteclpblfleakhaaGreatDoor.When Go.Proofs.YteclpblfleakhaaGreatDoor.Load Go.Proofs.YteclpblfleakhaaGreatDoor.Ins
set_option linter.unusedVariables false
theorem PlanAt.on {D G : Nat → Prop} {W W' : World} {p : Nat} {S : St} (h : PlanAt D G W p S) (hb : Below W.heap.size W W') : PlanAt D G W' p S := h.chg (E := fun _ => False) (Chg.of_below hb) (fun k he => he.elim)
end Go.Proofs.YteclpblfleakhaaGreatDoor.Plan
namespace Go.Proofs.YteclpblfleakhaaGreatDoor.Plan
open Go.RowKit Go.Proofs.YteclpblfleakhaaGreatDoor.Order Go.Proofs.YteclpblfleakhaaGreatDoor.Place Go.Proofs.YteclpblfleakhaaGreatDoor.Route Go.Proofs.YteclpblfleakhaaGreatDoor.When Go.Proofs.YteclpblfleakhaaGreatDoor.Load Go.Proofs.YteclpblfleakhaaGreatDoor.Feas Go.Proofs.YteclpblfleakhaaGreatDoor.Ins Go.Proofs.YteclpblfleakhaaGreatDoor.Cheap
set_option linter.unusedVariables false
theorem empty_right {v : Vh} {t : List Rq} (hv : v.chk = 0) (ht : ∀ q ∈ t, q.chk = 0) : errT v [] t = 0 ∧ fitE v [] t = 0 := by
 have hw : wrongV v [] t = 0 := by
  unfold wrongV
  rw [if_neg (by omega), if_neg, if_neg (by decide), if_neg (by simp)]
  rw [List.any_eq_true]
  rintro ⟨q, h1, h2⟩
  simp [ht q h1] at h2
 have hc := hv
 unfold Vh.chk at hc
 rw [Order.veh_iff] at hc
 have hd : distV (v.hx, v.hy) (v.hx, v.hy) = 0 := by unfold distV gap; simp
 have ho : okT v [] t = true := by
  unfold okT
  rw [Bool.and_eq_true]
  refine ⟨rfl, ?_⟩
  rw [decide_eq_true_eq]
  show v.st + distV (v.hx, v.hy) (v.hx, v.hy) ≤ v.en
  rw [hd]
  omega
 refine ⟨?_, ?_⟩
 · unfold errT
   rw [if_neg (by omega), ho]
   rfl
 · unfold fitE
   have h1 : toldV [] t = 0 := rfl
   have h2 : moreB v.cp (profV [] t) = false := by unfold profV; rw [h1]; rfl
   rw [if_neg (by omega), if_neg (by omega), h2]
   rfl
theorem new_Ok {vs : List Vh} {t : List Rq} (hc : 1 ≤ vs.length ∧ vs.length ≤ 4) (ht : t.length ≤ 1000) (hq : ∀ q ∈ t, q.chk = 0) (hv : ∀ v ∈ vs, v.chk = 0) : Ok (newS vs t) :=
 new_ok hc ht hq hv (fun v hm => empty_right (hv v hm) hq)
end Go.Proofs.YteclpblfleakhaaGreatDoor.Plan
namespace Go.Proofs.YteclpblfleakhaaGreatDoor.Price
open Go.RowKit Go.Sort Go.Proofs.YteclpblfleakhaaGreatDoor.Mem Go.Proofs.YteclpblfleakhaaGreatDoor.Order Go.Proofs.YteclpblfleakhaaGreatDoor.Route Go.Proofs.YteclpblfleakhaaGreatDoor.When Go.Proofs.YteclpblfleakhaaGreatDoor.Load Go.Proofs.YteclpblfleakhaaGreatDoor.Feas Go.Proofs.YteclpblfleakhaaGreatDoor.Ins Go.Proofs.YteclpblfleakhaaGreatDoor.Cheap Go.Proofs.YteclpblfleakhaaGreatDoor.Plan
set_option linter.unusedVariables false
structure Sg3 (w : World) : Prop where
 sg : Sg w
 sp : SgP' w
theorem Sg3.on {w v : World} (h : Sg3 w) (hb : Below w.heap.size w v) : Sg3 v := ⟨h.sg.on hb, h.sp.on hb⟩
def Gq (q : Nat) : Prop := 2 < q ∧ 1 < q ∧ 0 < q
theorem Sg3.pos {w : World} (h : Sg3 w) : Gq w.heap.size := ⟨h.sg.pos.1, h.sg.pos.2, h.sp.pos⟩
theorem Gq.mono {a b : Nat} (h : Gq a) (hb : a ≤ b) : Gq b := ⟨Nat.lt_of_lt_of_le h.1 hb, Nat.lt_of_lt_of_le h.2.1 hb, Nat.lt_of_lt_of_le h.2.2 hb⟩
theorem Sg3.keep {q : Nat} {w v : World} (h : Sg3 w) (hb : Below q w v) (hq : Gq q) : Sg3 v := ⟨h.sg.keep hb ⟨hq.1, hq.2.1⟩, h.sp.keep hb hq.2.2⟩
structure OwnP (q : Nat) (w : World) (W : World) (p : Nat) (S : St) : Prop where
 ex : ∃ D G, PlanAt D G W p S ∧ (∀ k, G k → q ≤ k)
 ok : Ok S
 sg : Sg3 W
 b : Below q w W
 sz : q ≤ W.heap.size
 gq : Gq q
theorem OwnP.on {q : Nat} {w W W' : World} {p : Nat} {S : St} (h : OwnP q w W p S) (hb : Below W.heap.size W W') : OwnP q w W' p S := by
 obtain ⟨D, G, h1, h2⟩ := h.ex
 exact ⟨⟨D, G, h1.on hb, h2⟩, h.ok, h.sg.on hb, h.b.trans (hb.mono h.sz), Nat.le_trans h.sz hb.size, h.gq⟩
theorem OwnP.step {q : Nat} {w W W' : World} {p : Nat} {S S' : St} {D G : Nat → Prop} (h : OwnP q w W p S) (hG0 : ∀ k, G k → q ≤ k) (hp : ∃ D' G', PlanAt D' G' W' p S' ∧ Grew D D' W W' ∧ ∀ k, G' k → G k ∨ W.heap.size ≤ k) (hc : Chg G W W') (ho : Ok S') : OwnP q w W' p S' := by
 obtain ⟨D', G', h1, -, h3⟩ := hp
 have hbb := hc.below h.sz hG0
 exact ⟨⟨D', G', h1, fun k hk => (h3 k hk).elim (hG0 k) (fun hl => Nat.le_trans h.sz hl)⟩, ho, h.sg.keep hbb h.gq, h.b.trans hbb, Nat.le_trans h.sz hc.size, h.gq⟩
theorem OwnP.mono {q m : Nat} {w w1 W : World} {p : Nat} {S : St} (h : OwnP m w1 W p S) (hb : Below q w w1) (hq : q ≤ m) (hg : Gq q) : OwnP q w W p S := by
 obtain ⟨D, G, h1, h2⟩ := h.ex
 exact ⟨⟨D, G, h1, fun k hk => Nat.le_trans hq (h2 k hk)⟩, h.ok, h.sg, hb.trans (h.b.mono hq), Nat.le_trans hq h.sz, hg⟩
theorem OwnP.new {w W : World} {p : Nat} {S : St} (hsg : Sg3 w) (hb : Below w.heap.size w W) (ho : Ok S) (h : ∃ G : Nat → Prop, (∀ k, G k → w.heap.size ≤ k ∧ k < W.heap.size) ∧ ∀ D : Nat → Prop, (∀ k, G k → D k) → (∀ k, D k → G k ∨ k < w.heap.size) → PlanAt D G W p S) : OwnP w.heap.size w W p S := by
 obtain ⟨G, hG, hGD⟩ := h
 exact ⟨⟨G, G, hGD G (fun k h => h) (fun k h => .inl h), fun k hk => (hG k hk).1⟩, ho, hsg.on hb, hb, hb.size, hsg.pos⟩
theorem PartsR.mem {M : Nat} {W : World} {gf gr : Nat} {ut u0 u1 : Value} {v0 v1 : Vh} {l0 l1 : List (Int × Int)} {t : List Rq} (h : PartsR M W gf gr ut u0 u1 v0 v1 l0 l1 t) :
 Vhs W.heap.size W (.slice (some ⟨gf, 0, none⟩) 2 2) [v0, v1] ∧ Rws W.heap.size W (.slice (some ⟨gr, 0, none⟩) 2 2) [l0, l1] ∧ Rqs W.heap.size W ut t := by
 refine ⟨?_, ⟨[u0, u1], rfl, ?_, fun i u l hu hl => ?_⟩, ?_⟩
 · exact RowB.of_at (m := 5) (rows := [vhV v0, vhV v1]) h.fl h.fl.inside (fun r hr => by simp [vhV] at hr; rcases hr with rfl | rfl <;> rfl) (fun i u hu => by simpa [vhV] using hu) (Nat.le_refl _) (by decide)
 · exact RowB.of_at (m := 1) (rows := [[u0], [u1]]) h.rt h.rt.inside (fun r hr => by simp at hr; rcases hr with rfl | rfl <;> rfl) (fun i u hu => by simpa using hu) (Nat.le_refl _) (by decide)
 · match i with
   | 0 =>
    simp at hu hl
    subst hu; subst hl
    exact Row.of_owns h.o0 rfl (Nat.le_refl _)
   | 1 =>
    simp at hu hl
    subst hu; subst hl
    exact Row.of_owns h.o1 rfl (Nat.le_refl _)
   | i + 2 => simp at hu
 · exact RowB.of_owns (rows := t.map rqV) h.ot (by simp) (fun r hr => by obtain ⟨s, _, rfl⟩ := List.mem_map.1 hr; rfl) (Nat.le_refl _)
theorem PartsR.new0 {M : Nat} {W : World} {gf gr : Nat} {ut u0 u1 : Value} {v0 v1 : Vh} {l0 l1 : List (Int × Int)} {t : List Rq} (h : PartsR M W gf gr ut u0 u1 v0 v1 l0 l1 t) : newE [v0, v1] t = 0 ∧ Ok (newS [v0, v1] t) :=
 ⟨newE_ok (by simp) (fun v hv => by simp at hv; rcases hv with rfl | rfl; exact h.vdr.1.1; exact h.vdr.2.1) (fun q hq => (h.tdr q hq).1), new_Ok (by simp) (by rw [h.tl]; decide) (fun q hq => (h.tdr q hq).1) (fun v hv => by simp at hv; rcases hv with rfl | rfl; exact h.vdr.1.1; exact h.vdr.2.1)⟩
def pvA : Vh := ⟨0, 0, 5, 0, 100⟩
def pvB : Vh := ⟨20, 0, 5, 0, 100⟩
def prq0 : Rq := ⟨10, 0, 20, 0, 0, 1000, 0, 1000, 1, 0⟩
def prq1 : Rq := ⟨0, 5, 0, 9, 0, 1000, 0, 1000, 1, 0⟩
def pcV : List Vh := [pvA, pvB]
def pcT : List Rq := [prq0, prq1]
def pc0 : St := newS pcV pcT
def pc1 : St := putS pc0 0
theorem pc0_ok : Ok pc0 := new_Ok (by decide) (by decide) (by decide +kernel) (by decide +kernel)
theorem pc1_ok : Ok pc1 := put_ok pc0_ok 0
theorem pc_new : newE pcV pcT = 0 := by decide +kernel
theorem pc_least : (leastV pc0 0).1 = 1 ∧ (leastV pc0 0).2.i = 0 ∧ (leastV pc0 0).2.j = 0 ∧ (leastQ (waysS pc0 0)).isSome = true := by decide +kernel
theorem pc_b0 : bruteN pc0 0 = 20 := by decide +kernel
theorem pc_b1 : bruteN pc0 1 = 18 := by decide +kernel
theorem pc_b2 : bruteN pc0 2 = 4294967296 := by decide +kernel
theorem pc_b3 : bruteN pc1 0 = 4294967296 := by decide +kernel
theorem pc_rows : pc0.rows = [[], []] := by decide +kernel
def pcTC : Array Value := #[.int .i64 10, .int .i64 0, .int .i64 20, .int .i64 0, .int .i64 0, .int .i64 1000, .int .i64 0, .int .i64 1000, .int .i64 1, .int .i64 0, .int .i64 0, .int .i64 5, .int .i64 0, .int .i64 9, .int .i64 0, .int .i64 1000, .int .i64 0, .int .i64 1000, .int .i64 1, .int .i64 0]
def pcVC : Array Value := #[.int .i64 0, .int .i64 0, .int .i64 5, .int .i64 0, .int .i64 100, .int .i64 20, .int .i64 0, .int .i64 5, .int .i64 0, .int .i64 100]
theorem pc_mem {W : World} {gf gr gt : Nat} (h1 : At W gf 32 pcVC) (h2 : At W gr 28 #[.slice none 0 0, .slice none 0 0]) (h3 : At W gt 43 pcTC) :
 Vhs W.heap.size W (.slice (some ⟨gf, 0, none⟩) 2 2) pc0.vs ∧ Rws W.heap.size W (.slice (some ⟨gr, 0, none⟩) 2 2) pc0.rows ∧ Rqs W.heap.size W (.slice (some ⟨gt, 0, none⟩) 2 2) pc0.t := by
 rw [pc_rows]
 refine ⟨?_, ⟨[.slice none 0 0, .slice none 0 0], rfl, ?_, fun i u l hu hl => ?_⟩, ?_⟩
 · exact RowB.of_at (m := 5) (rows := [vhV pvA, vhV pvB]) h1 h1.inside (fun r hr => by simp [vhV] at hr; rcases hr with rfl | rfl <;> rfl) (fun i u hu => by simpa [vhV, pcVC, pvA, pvB] using hu) (Nat.le_refl _) (by decide)
 · exact RowB.of_at (m := 1) (rows := [[.slice none 0 0], [.slice none 0 0]]) h2 h2.inside (fun r hr => by simp at hr; rw [hr]; rfl) (fun i u hu => by simpa using hu) (Nat.le_refl _) (by decide)
 · match i with
   | 0 =>
    simp at hu hl
    subst hu; subst hl
    exact RowB.nil _ _ _
   | 1 =>
    simp at hu hl
    subst hu; subst hl
    exact RowB.nil _ _ _
   | i + 2 => simp at hu
 · exact RowB.of_at (m := 10) (rows := [rqV prq0, rqV prq1]) h3 h3.inside (fun r hr => by simp [rqV] at hr; rcases hr with rfl | rfl <;> rfl) (fun i u hu => by simpa [rqV, pcTC, prq0, prq1] using hu) (Nat.le_refl _) (by decide)
set_option maxRecDepth 100000 in
set_option maxHeartbeats 16000000 in
theorem works_any (w : World) (hsg : Sg3 w) : Calls Tryz.prog 7 #[] w fun e w' => e = .returned (.bool true) ∧ Below w.heap.size w w' := by
 obtain ⟨q, hq⟩ : ∃ q, w.heap.size = q := ⟨_, rfl⟩
 obtain ⟨wa, hwa⟩ : ∃ wa, w.alloc (.cells #[.int .i64 0, .int .i64 1000] 41) = wa := ⟨_, rfl⟩
 have hka : At wa q 41 #[.int .i64 0, .int .i64 1000] := by rw [← hwa]; exact At.new_ _ _ _ hq.symm
 have hsa : wa.heap.size = q + 1 := by rw [← hwa]; simp [hq]
 have hba : Below q w wa := by rw [← hwa]; exact (Below.refl _ _).alloc (by omega) _
 obtain ⟨wb, hwb⟩ : ∃ wb, wa.alloc (.cells pcVC 32) = wb := ⟨_, rfl⟩
 have hkb : At wb q 41 #[.int .i64 0, .int .i64 1000] := by rw [← hwb]; exact hka.alloc _
 have hvb : At wb (q + 1) 32 pcVC := by rw [← hwb]; exact At.new_ _ _ _ hsa.symm
 have hsb : wb.heap.size = q + 2 := by rw [← hwb]; simp [hsa]
 have hbb : Below q w wb := by rw [← hwb]; exact hba.alloc (by omega) _
 obtain ⟨w1, hw1⟩ : ∃ w1, (wb.alloc (.cells pcTC 43)).alloc (.cells #[.slice none 0 0, .slice none 0 0] 28) = w1 := ⟨_, rfl⟩
 have hs1 : w1.heap.size = q + 4 := by rw [← hw1]; simp [hsb]
 have hb1 : Below q w w1 := by rw [← hw1]; exact (hbb.alloc (by omega) _).alloc (by simp; omega) _
 have hv1 : At w1 (q + 1) 32 pcVC := by rw [← hw1]; exact (hvb.alloc _).alloc _
 have ht1 : At w1 (q + 2) 43 pcTC := by rw [← hw1]; exact (At.new_ _ _ _ hsb.symm).alloc _
 have hr1 : At w1 (q + 3) 28 #[.slice none 0 0, .slice none 0 0] := by rw [← hw1]; exact At.new_ _ _ _ (by simp [hsb])
 have hm := pc_mem hv1 hr1 ht1
 have hsg1 := hsg.on (by rw [hq]; exact hb1)
 have hlen : Hid (∀ l ∈ pc0.rows, l.length ≤ 100) := Lib.hid (by rw [pc_rows]; intro l hl; simp at hl; rw [hl]; decide)
 have hnum : Hid (∀ l ∈ pc0.rows, Nums l) := Lib.hid (by rw [pc_rows]; intro l hl; simp at hl; rw [hl]; intro s hs; cases hs)
 have hL := Least_any pc0 0 w1 hsg1.sp hm.1 hm.2.1 hm.2.2 hlen.out hnum.out (by decide)
 rw [pc_least.1, pc_least.2.1, pc_least.2.2.1, pc_least.2.2.2] at hL
 have a0 := hka.cell 0
 have a1 := hka.cell 1
 have k0 := hkb.cell 0
 have k1 := hkb.cell 1
 simp at a0 a1 k0 k1
 have hm' := Lib.hid hm
 have hsg1' := Lib.hid hsg1
 have hb1' := Lib.hid hb1
 have hq' := Lib.hid hq
 have hwa' := Lib.hid hwa
 have hwb' := Lib.hid hwb
 have hw1' := Lib.hid hw1
 have hsa' := Lib.hid hsa
 have hsb' := Lib.hid hsb
 have hqa : q < wa.heap.size := by omega
 have hqb : q < wb.heap.size := by omega
 clear hq hwa hwb hw1 hsa hsb hs1 hka hkb hvb hv1 ht1 hr1 hm hba hbb hb1 hsg1 hsg
 go_enter Tryz.func7, Tryz.ntmps7
 go_upto_region 2 with fail
 try simp only [hq'.out]
 rw [hwa'.out]
 go_upto_region 3 with fail
 try simp only [hsa'.out]
 unfold pcVC at hwb'
 rw [hwb'.out]
 go_upto_region 5 with fail
 try simp only [hsb'.out]
 unfold pcTC at hw1'
 rw [hw1'.out]
 clear a0 a1 k0 k1
 go_wp2_with fail
 refine hL.mono ?_
 clear hL
 rintro e w2 ⟨rfl, hb2⟩
 have hV2 := hm'.out.1.on hb2
 have hT2 := Rqs.on hm'.out.2.2 hb2
 have hm2 := Lib.hid (And.intro hV2 (And.intro (hm'.out.2.1.on hb2) hT2))
 have hsg2 := Lib.hid (hsg1'.out.on hb2)
 have hB2 := Lib.hid (hb1'.out.trans (hb2.mono (by have := hb1'.out.size; have := hq'.out; omega)))
 have hN := New_any _ _ pcV pcT w2 hV2 hT2 (.inr ⟨_, _, _, rfl⟩) (.inr ⟨_, _, _, rfl⟩) (by decide) (by decide)
 rw [pc_new] at hN
 clear hb2 hV2 hT2 hm' hsg1' hb1'
 go_wp2_with fail
 refine hN.mono ?_
 clear hN
 rintro e w3 ⟨-, hN, hb3⟩
 obtain ⟨p, rfl, hG⟩ := hN (by trivial)
 have hP3 : Hid (OwnP w2.heap.size w2 w3 p pc0) := Lib.hid (OwnP.new hsg2.out hb3 pc0_ok hG)
 have hz2 : q ≤ w2.heap.size := by have := hB2.out.size; have := hq'.out; omega
 clear hN hG hb3 hsg2
 obtain ⟨D, G, hA, hG0⟩ := hP3.out.ex
 have hC := Bid_any 0 w3 hA pc0_ok hP3.out.sg.sg
 rw [pc_b0] at hC
 clear hA hG0
 go_wp2_with fail
 refine hC.mono ?_
 clear hC
 rintro e w4 ⟨rfl, hb4⟩
 have hP4 := Lib.hid (hP3.out.on hb4)
 clear hb4 hP3
 obtain ⟨D, G, hA, hG0⟩ := hP4.out.ex
 have hC := Put_any 0 w4 hA pc0_ok hP4.out.sg.sg
 have hG0' := Lib.hid hG0
 clear hA hG0
 go_wp2_with fail
 refine hC.mono ?_
 clear hC
 rintro e w5 ⟨rfl, hp5, hc5⟩
 have hP5 : Hid (OwnP w2.heap.size w2 w5 p pc1) := Lib.hid (hP4.out.step hG0'.out hp5 hc5 pc1_ok)
 clear hp5 hc5 hP4 hG0'
 have hC := Brute_any pc0 0 w5 hP5.out.sg.sp (hm2.out.1.on hP5.out.b) (hm2.out.2.1.on hP5.out.b) (Rqs.on hm2.out.2.2 hP5.out.b) hlen.out hnum.out (by decide)
 rw [pc_b0] at hC
 go_wp2_with fail
 refine hC.mono ?_
 clear hC
 rintro e w6 ⟨rfl, hb6⟩
 have hP6 := Lib.hid (hP5.out.on hb6)
 clear hb6 hP5
 have hC := Brute_any pc0 1 w6 hP6.out.sg.sp (hm2.out.1.on hP6.out.b) (hm2.out.2.1.on hP6.out.b) (Rqs.on hm2.out.2.2 hP6.out.b) hlen.out hnum.out (by decide)
 rw [pc_b1] at hC
 go_wp2_with fail
 refine hC.mono ?_
 clear hC
 rintro e w7 ⟨rfl, hb7⟩
 have hP7 := Lib.hid (hP6.out.on hb7)
 clear hb7 hP6
 have hC := Brute_any pc0 2 w7 hP7.out.sg.sp (hm2.out.1.on hP7.out.b) (hm2.out.2.1.on hP7.out.b) (Rqs.on hm2.out.2.2 hP7.out.b) hlen.out hnum.out (by decide)
 rw [pc_b2] at hC
 go_wp2_with fail
 refine hC.mono ?_
 clear hC
 rintro e w8 ⟨rfl, hb8⟩
 have hP8 := Lib.hid (hP7.out.on hb8)
 clear hb8 hP7
 obtain ⟨D, G, hA, hG0⟩ := hP8.out.ex
 have hC := Bid_any 0 w8 hA pc1_ok hP8.out.sg.sg
 rw [pc_b3] at hC
 clear hA hG0
 go_wp2_with fail
 refine hC.mono ?_
 clear hC
 rintro e w9 ⟨rfl, hb9⟩
 have hB9 := Lib.hid (hB2.out.trans ((hP8.out.on hb9).b.mono hz2))
 clear hb9 hP8
 go_wp2
 go_ret
 exact ⟨rfl, by rw [hq'.out]; exact hB9.out⟩
set_option maxRecDepth 100000 in
set_option maxHeartbeats 16000000 in
theorem made_any {uf ut : Value} {vs : List Vh} {t : List Rq} (xp : Option Addr) (Np cp : Nat) (ps : List Int) (w : World) (hsg : Sg3 w) (hF : Vhs w.heap.size w uf vs) (hT : Rqs w.heap.size w ut t) (hpf : Plain uf) (hpt : Plain ut) (hE : newE vs t = 0) (hok : Ok (newS vs t)) (hvl : vs.length ≤ 1000000) (htl : t.length ≤ 1000000)
 (hrow : RowB w.heap.size w (.slice xp Np cp) 1 (ps.map byV)) (hby : ∀ x ∈ ps, 0 ≤ x ∧ x < 256) :
 Calls Tryz.prog 8 #[uf, ut, .slice xp Np cp] w fun e w' => ∃ p, e = .returned (.tuple #[.pointer (some ⟨p, 0, none⟩), .bool true]) ∧ ∃ S, S.vs = vs ∧ S.t = t ∧ OwnP w.heap.size w w' p S := by
 have hN := New_any uf ut vs t w hF hT hpf hpt hvl htl
 rw [hE] at hN
 obtain ⟨xf, Nf, cf, rfl, -⟩ := Vhs.opened hF
 obtain ⟨xt, Nt, ct, rfl, -⟩ := Rqs.opened hT
 have hNp : ps.length = Np := by
  obtain ⟨x, cap, e, -⟩ := id hrow
  simp at e
  exact e.2.1.symm
 obtain ⟨hcp1, hcp2⟩ : Np ≤ cp ∧ cp ≤ maxLen := by
  obtain ⟨x, cap, e, h1, h2, -⟩ := id hrow
  simp at e h1
  obtain ⟨-, e2, e3⟩ := e
  subst e3
  exact ⟨by omega, h2⟩
 unfold maxLen at hcp2
 obtain ⟨q, hq⟩ : ∃ q, w.heap.size = q := ⟨_, rfl⟩
 have hrow' := Lib.hid hrow
 have hby' := Lib.hid hby
 have hNp' := Lib.hid hNp
 have hsg' := Lib.hid hsg
 have hok' := Lib.hid hok
 have hq' := Lib.hid hq
 clear hF hT hpf hpt hE hok hvl htl hrow hby hNp hsg hq
 go_enter Tryz.func8, Tryz.ntmps8
 go_wp2_with fail
 refine hN.mono ?_
 clear hN
 rintro e w1 ⟨-, hN, hb1⟩
 obtain ⟨p, rfl, hG⟩ := hN (by trivial)
 have hP1 : Hid (OwnP w.heap.size w w1 p (newS vs t)) := Lib.hid (OwnP.new hsg'.out hb1 hok'.out hG)
 clear hN hG hb1 hsg'
 go_wp2
 go_loopw [10] (fun i wr => ∃ (k : Nat) (S : St), k ≤ Np ∧ k ≤ 8 ∧ i = .int .i64 k ∧ S.vs = vs ∧ S.t = t ∧ Hid (OwnP w.heap.size w wr p S))
  (fun i _ => Np - (intOf i).toNat)
 case atStart => exact ⟨0, newS vs t, Nat.zero_le _, by omega, rfl, rfl, rfl, hP1⟩
 case round =>
  obtain ⟨k, S, hk, hk8, rfl, hvs, ht, hP⟩ := hrel
  clear hP1
  have hvt := Lib.hid (And.intro hvs ht)
  clear hvs ht
  by_cases hlt : k < Np ∧ k < 8
  case neg =>
   by_cases hka : k < Np
   · have hki : (k : Int) < (Np : Int) := by omega
     have hkn : ¬ ((k : Int) < 8) := by omega
     go_wp2
     refine bodyPost_ret (v := .tuple #[.pointer (some ⟨p, 0, none⟩), .bool true]) (by simp [results, Tryz.results8, go_sem]) rfl ?_
     exact ⟨_, rfl, S, hvt.out.1, hvt.out.2, hP.out⟩
   · have hki : ¬ ((k : Int) < (Np : Int)) := by omega
     go_wp2
     refine bodyPost_ret (v := .tuple #[.pointer (some ⟨p, 0, none⟩), .bool true]) (by simp [results, Tryz.results8, go_sem]) rfl ?_
     exact ⟨_, rfl, S, hvt.out.1, hvt.out.2, hP.out⟩
  obtain ⟨hka, hk3⟩ := hlt
  have hki : (k : Int) < (Np : Int) := by omega
  have hk3i : (k : Int) < 8 := by omega
  obtain ⟨y, hy⟩ : ∃ y, ps[k]? = some y := ⟨ps[k]'(by rw [hNp'.out]; exact hka), List.getElem?_eq_getElem _⟩
  obtain ⟨hy0, hy1⟩ := hby'.out _ (List.mem_of_getElem? hy)
  obtain ⟨g, o, rfl, hg, hc⟩ := RowB.row (hrow'.out.keep hP.out.b (Nat.le_refl _)) (j := k) (r := byV y) (by rw [List.getElem?_map, hy]; rfl)
  have d0 := hc 0 _ rfl
  simp at d0
  have hgw : g < wr.heap.size := by have := hP.out.sz; omega
  have hkN := Lib.hid (And.intro hka hk3)
  obtain ⟨r, hr⟩ : ∃ r, y % 8 = r := ⟨_, rfl⟩
  have hrb : 0 ≤ r ∧ r < 8 := by omega
  obtain ⟨D, G, hA, hG0⟩ := hP.out.ex
  have hC := Put_any r wr hA hP.out.ok hP.out.sg.sg
  have hG0' := Lib.hid hG0
  have hok2 := Lib.hid (put_ok hP.out.ok r)
  have hv2 := Lib.hid (show (putS S r).vs = vs ∧ (putS S r).t = t from ⟨(putS_t S r).2.trans hvt.out.1, (putS_t S r).1.trans hvt.out.2⟩)
  clear hA hG0 hc hy hka hk3 hg
  go_wp2_with fail
  refine hC.mono ?_
  clear hC d0
  rintro e w2 ⟨rfl, hp2, hc2⟩
  have hP2 := Lib.hid (hP.out.step hG0'.out hp2 hc2 hok2.out)
  clear hp2 hc2
  go_wp2
  go_roundw
  case rel => exact ⟨k + 1, _, hkN.out.1, hkN.out.2, by go_num, hv2.out.1, hv2.out.2, hP2⟩
  case measure => have := hkN.out.1; simp [intOf]; omega
theorem own_plain3 {W : World} {b s n : Nat} {e : TypeId} {v : Value} {xs : List Value} (h : W.ownsRow b e s v n xs) : Plain v := by
 rcases h.2 with ⟨rfl, -⟩ | ⟨g, c, cur, rfl, -⟩
 · exact .inl rfl
 · exact .inr ⟨_, _, _, rfl⟩
theorem ok_at {S : St} (h : Ok S) {l : List (Int × Int)} (hl : l ∈ S.rows) : ∃ (i : Nat) (v : Vh), S.vs[i]? = some v ∧ S.rows[i]? = some l := by
 obtain ⟨i, hi, rfl⟩ := List.getElem_of_mem hl
 exact ⟨i, _, List.getElem?_eq_getElem (by rw [← h.len]; exact hi), List.getElem?_eq_getElem hi⟩
theorem ok_short {S : St} (h : Ok S) {l : List (Int × Int)} (hl : l ∈ S.rows) : l.length ≤ 16 := by
 obtain ⟨i, v, h1, h2⟩ := ok_at h hl
 exact (h.dr i v l h1 h2).1.hn
theorem ok_nums {S : St} (h : Ok S) {l : List (Int × Int)} (hl : l ∈ S.rows) : Nums l := by
 obtain ⟨i, v, h1, h2⟩ := ok_at h hl
 exact (h.dr i v l h1 h2).2.2.2
end Go.Proofs.YteclpblfleakhaaGreatDoor.Price
namespace Go.Proofs.YteclpblfleakhaaGreatDoor
open Go.ChangeShapes Go.WideShapes Go.ChangeAt Go.RowKit
namespace Close
variable {H : Type} {enc : TypeId × Value → H} {P : Program}
def allRead (P : Program) (ts : List TypeId) : Bool := ts.all fun t => P.readableRec t && decide (t < P.types.size)
theorem below_trodAll (hl : laidOutB P = true) {W W' : World} (hb : Below W.heap.size W W') :
 ∀ {ts : List TypeId} {vs : List Value} {ds : List (DataW H)} {ps : List MemPlace}, allRead P ts = true →
  DataW.TrodAll enc P W 0 (fun _ => true) true ts vs ds ps → (∀ p ∈ ps, p.block < W.heap.size) →
  DataW.TrodAll enc P W' 0 (fun b => decide (b < W.heap.size)) true ts vs ds ps := by
 intro ts
 induction ts with
 | nil =>
  intro vs ds ps _ h _
  obtain ⟨rfl, rfl, rfl⟩ := trodAll_nil h
  exact h
 | cons t ts ih =>
  intro vs ds ps ha h hlt
  obtain ⟨v, vs', d, ds', p, q, rfl, rfl, rfl, h0, h1⟩ := trodAll_cons h
  simp only [allRead, List.all_cons, Bool.and_eq_true, decide_eq_true_eq] at ha
  have h0' := Below.trod hl ha.1.1 ha.1.2 h0 hb (fun x hx => hlt x (List.mem_append_left _ hx))
  have h1' := ih ha.2 h1 (fun x hx => hlt x (List.mem_append_right _ hx))
  exact trodAll_cons_mk h0' h1'
theorem law_post {f : Func} {s : ChangeSpec} {W W' : World} {args : Array Value} {ds gs : List (DataW H)} {before : List MemPlace} {tb : TypeId}
 (hl : laidOutB P = true) (hts : allRead P f.params.toList = true) (hvars : s.vars = []) (hres : f.resultTypes = #[tb]) (htb : P.underlying tb = some .bool)
 (hW : DataW.Whole enc P f.params.toList s.vars false W args.toList ds gs before)
 (hout : s.fn H (ds ++ gs) = { results := [.lit (.bool true)], args := ds }) (hb : Below W.heap.size W W') :
 s.post enc P f false true false false W args (.bool true) W' := by
 have hlt : ∀ p ∈ before, p.block < W.heap.size := fun p hp => hW.lt p hp
 have hW' := hW
 obtain ⟨p, q, hA, hV, rfl, _, _⟩ := hW
 rw [hvars] at hV
 obtain ⟨rfl, rfl⟩ := trodVars_none hV
 refine ⟨ds, [], p ++ [], [], p, [], hW', ?_, ?_, ?_, ?_, fun h => by cases h⟩
 · rw [hout, hres]
   exact trodAll_cons_mk (shut_bool htb _) trodAll_mk0
 · rw [hout]
   exact below_trodAll hl hb hts hA (fun x hx => hlt x (by simpa using hx))
 · rw [hvars, hout]
   rfl
 · refine World.keptBut_mono (fun x hx => ⟨hx, .inr (.inl ?_)⟩) (hb.frame (· ∈ p ++ []))
   simpa using hx
end Close
theorem own : ownKnob Tryz.prog.godebug = none := by kernel_rfl
theorem laidOut : laidOutB Tryz.prog = true := by kernel_rfl
end Go.Proofs.YteclpblfleakhaaGreatDoor
namespace Go.Proofs.YteclpblfleakhaaGreatDoor.Laid
open Go.ChangeShapes Go.WideShapes Go.RowKit Go.Proofs.YteclpblfleakhaaGreatDoor.Load Go.Proofs.YteclpblfleakhaaGreatDoor.Price
set_option maxRecDepth 100000
abbrev lst : List (String × DataW Unit) := [("consign/load.signs", Rows.laid_consign_load_signs), ("consign/cheap.none", Rows.laid_consign_cheap_none), ("consign/price.none", Rows.laid_consign_price_none)]
theorem gSigns : Tryz.prog.globalNamed "consign/load.signs" = some 2 := by kernel_rfl
theorem tSigns : (Tryz.prog.globals[2]?).map (·.type) = some 211 := by kernel_rfl
theorem gNone : Tryz.prog.globalNamed "consign/cheap.none" = some 1 := by kernel_rfl
theorem tNone : (Tryz.prog.globals[1]?).map (·.type) = some 102 := by kernel_rfl
theorem gBest : Tryz.prog.globalNamed "consign/price.none" = some 0 := by kernel_rfl
theorem tBest : (Tryz.prog.globals[0]?).map (·.type) = some 90 := by kernel_rfl
theorem door_met (os : Os) (args : Array Value) : laidMetH Tryz.prog lst ((World.doorLaid Tryz.prog 400 os).forCall (fun _ _ => 0) ⟨#[], args, []⟩).memory :=
 laidMetH_of_parts3 (fuel := 8) (laidMet_of_run' 8 (by kernel_rfl) (by kernel_rfl)) (by kernel_rfl) (by kernel_rfl)
theorem sg_of_laid {W : World} (h : laidMetH Tryz.prog lst W) : Sg3 W := by
 rw [MakeChecks.laidMetH_plain _ _ _ (by kernel_rfl)] at h
 obtain ⟨ps, ⟨g1, t1, cs1, f1, p1, q1, hg1, ht1, hv1, hd1, ⟨g2, t2, cs2, f2, p2, q2, hg2, ht2, hv2, hd2, ⟨g3, t3, cs3, f3, p3, q3, hg3, ht3, hv3, hd3, _, _⟩, _⟩, _⟩, _, _⟩ := h
 refine ⟨⟨?_, ?_⟩, ?_⟩
 · obtain rfl := Option.some.inj (gSigns.symm.trans hg1)
   obtain rfl := Option.some.inj (tSigns.symm.trans ht1)
   obtain ⟨xs, m1, rfl, hx1, hlen, hn3, hel⟩ := DataW.trod_array Tryz.underlying211 hd1
   have c3 : Tryz.prog.cellsOf 3 = 1 := by kernel_rfl
   have h0 := hel 0 (by decide)
   have h1 := hel 1 (by decide)
   simp only [Prod.mk.injEq, Rows.laid_consign_load_signs, DataW.agg.injEq] at hx1
   match xs, hn3, hx1, h0, h1 with
   | [x0, x1], _, hx1, h0, h1 =>
    simp only [List.map_cons, List.map_nil, List.cons.injEq, and_true] at hx1
    obtain ⟨k, e1, e2, _⟩ := DataW.trod_int Tryz.underlying3 (show DataW.trod _ Tryz.prog W 0 _ false m1 3 _ = some x0 from h0)
    obtain ⟨k2, e3, e4, _⟩ := DataW.trod_int Tryz.underlying3 (show DataW.trod _ Tryz.prog W 0 _ false m1 3 _ = some x1 from h1)
    have hk : k = 1 := by rw [e2] at hx1; simpa using hx1.1.1.symm
    have hk2 : k2 = -1 := by rw [e4] at hx1; simpa using hx1.1.2.symm
    subst hk
    subst hk2
    have v0 := World.var?_cell hg1 hv1 0
    have v1 := World.var?_cell hg1 hv1 1
    obtain ⟨l1⟩ := cs1
    rw [c3] at e1 e3
    match l1, e1, e3 with
    | [], e1, e3 => simp at e1
    | [c], e1, e3 => simp at e3
    | c :: c2 :: _, e1, e3 =>
     simp at e1 e3
     subst e1
     subst e3
     exact ⟨by simpa using v0, by simpa using v1⟩
 · obtain rfl := Option.some.inj (gNone.symm.trans hg2)
   obtain rfl := Option.some.inj (tNone.symm.trans ht2)
   obtain ⟨xs, m1, rfl, hx1, hlen, hn3, hel⟩ := DataW.trod_struct Tryz.underlying102 hd2
   have c3 : Tryz.prog.cellsOf 3 = 1 := by kernel_rfl
   have h0 := hel 0 _ rfl
   have h1 := hel 1 _ rfl
   have h2 := hel 2 _ rfl
   simp only [Prod.mk.injEq, Rows.laid_consign_cheap_none, DataW.agg.injEq] at hx1
   match xs, hn3, hx1, h0, h1, h2 with
   | [x0, x1, x2], _, hx1, h0, h1, h2 =>
    simp only [List.map_cons, List.map_nil, List.cons.injEq, and_true] at hx1
    obtain ⟨k, e1, e2, _⟩ := DataW.trod_int Tryz.underlying3 (show DataW.trod _ Tryz.prog W 0 _ false m1 3 _ = some x0 from h0)
    obtain ⟨k2, e3, e4, _⟩ := DataW.trod_int Tryz.underlying3 (show DataW.trod _ Tryz.prog W 0 _ false m1 3 _ = some x1 from h1)
    obtain ⟨k3, e5, e6, _⟩ := DataW.trod_int Tryz.underlying3 (show DataW.trod _ Tryz.prog W 0 _ false m1 3 _ = some x2 from h2)
    have hk : k = -1 := by rw [e2] at hx1; simpa using hx1.1.1.symm
    have hk2 : k2 = -1 := by rw [e4] at hx1; simpa using hx1.1.2.1.symm
    have hk3 : k3 = 9223372036854775807 := by rw [e6] at hx1; simpa using hx1.1.2.2.symm
    subst hk
    subst hk2
    subst hk3
    have v0 := World.var?_cell hg2 hv2 0
    have v1 := World.var?_cell hg2 hv2 1
    have v2 := World.var?_cell hg2 hv2 2
    obtain ⟨l1⟩ := cs2
    replace e1 : List.take (Tryz.prog.cellsOf 3) (List.drop 0 l1) = [.int .i64 (-1)] := e1
    replace e3 : List.take (Tryz.prog.cellsOf 3) (List.drop 1 l1) = [.int .i64 (-1)] := e3
    replace e5 : List.take (Tryz.prog.cellsOf 3) (List.drop 2 l1) = [.int .i64 9223372036854775807] := e5
    rw [c3] at e1 e3 e5
    match l1, e1, e3, e5 with
    | [], e1, e3, e5 => simp at e1
    | [c], e1, e3, e5 => simp at e3
    | [c, c2], e1, e3, e5 => simp at e5
    | c :: c2 :: c4 :: _, e1, e3, e5 =>
     simp at e1 e3 e5
     subst e1
     subst e3
     subst e5
     exact ⟨by simpa using v0, by simpa using v1, by simpa using v2⟩
 · obtain rfl := Option.some.inj (gBest.symm.trans hg3)
   obtain rfl := Option.some.inj (tBest.symm.trans ht3)
   obtain ⟨xs, m1, rfl, hx1, hlen, hn3, hel⟩ := DataW.trod_struct Tryz.underlying90 hd3
   have c3 : Tryz.prog.cellsOf 3 = 1 := by kernel_rfl
   have h0 := hel 0 _ rfl
   have h1 := hel 1 _ rfl
   have h2 := hel 2 _ rfl
   have h3 := hel 3 _ rfl
   simp only [Prod.mk.injEq, Rows.laid_consign_price_none, DataW.agg.injEq] at hx1
   match xs, hn3, hx1, h0, h1, h2, h3 with
   | [x0, x1, x2, x3], _, hx1, h0, h1, h2, h3 =>
    simp only [List.map_cons, List.map_nil, List.cons.injEq, and_true] at hx1
    obtain ⟨k, e1, e2, _⟩ := DataW.trod_int Tryz.underlying3 (show DataW.trod _ Tryz.prog W 0 _ false m1 3 _ = some x0 from h0)
    obtain ⟨k2, e3, e4, _⟩ := DataW.trod_int Tryz.underlying3 (show DataW.trod _ Tryz.prog W 0 _ false m1 3 _ = some x1 from h1)
    obtain ⟨k3, e5, e6, _⟩ := DataW.trod_int Tryz.underlying3 (show DataW.trod _ Tryz.prog W 0 _ false m1 3 _ = some x2 from h2)
    obtain ⟨k4, e7, e8, _⟩ := DataW.trod_int Tryz.underlying3 (show DataW.trod _ Tryz.prog W 0 _ false m1 3 _ = some x3 from h3)
    have hk : k = -1 := by rw [e2] at hx1; simpa using hx1.1.1.symm
    have hk2 : k2 = 0 := by rw [e4] at hx1; simpa using hx1.1.2.1.symm
    have hk3 : k3 = 0 := by rw [e6] at hx1; simpa using hx1.1.2.2.1.symm
    have hk4 : k4 = 0 := by rw [e8] at hx1; simpa using hx1.1.2.2.2.symm
    subst hk
    subst hk2
    subst hk3
    subst hk4
    have v0 := World.var?_cell hg3 hv3 0
    have v1 := World.var?_cell hg3 hv3 1
    have v2 := World.var?_cell hg3 hv3 2
    have v3 := World.var?_cell hg3 hv3 3
    obtain ⟨l1⟩ := cs3
    replace e1 : List.take (Tryz.prog.cellsOf 3) (List.drop 0 l1) = [.int .i64 (-1)] := e1
    replace e3 : List.take (Tryz.prog.cellsOf 3) (List.drop 1 l1) = [.int .i64 0] := e3
    replace e5 : List.take (Tryz.prog.cellsOf 3) (List.drop 2 l1) = [.int .i64 0] := e5
    replace e7 : List.take (Tryz.prog.cellsOf 3) (List.drop 3 l1) = [.int .i64 0] := e7
    rw [c3] at e1 e3 e5 e7
    match l1, e1, e3, e5, e7 with
    | [], e1, e3, e5, e7 => simp at e1
    | [c], e1, e3, e5, e7 => simp at e3
    | [c, c2], e1, e3, e5, e7 => simp at e5
    | [c, c2, c4], e1, e3, e5, e7 => simp at e7
    | c :: c2 :: c4 :: c5 :: _, e1, e3, e5, e7 =>
     simp at e1 e3 e5 e7
     subst e1
     subst e3
     subst e5
     subst e7
     exact ⟨by simpa using v0, by simpa using v1, by simpa using v2, by simpa using v3⟩
end Go.Proofs.YteclpblfleakhaaGreatDoor.Laid

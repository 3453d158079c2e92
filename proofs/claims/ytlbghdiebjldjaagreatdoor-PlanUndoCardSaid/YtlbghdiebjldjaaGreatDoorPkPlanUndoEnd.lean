import Derived.Test.YtlbghdiebjldjaaGreatDoorPkPlanDone
import Derived.Test.YtlbghdiebjldjaaGreatDoorPkClose

namespace Go.Proofs.YtlbghdiebjldjaaGreatDoor.Plan
open Go.RowKit Go.Sort Go.Proofs.YtlbghdiebjldjaaGreatDoor.Mem Go.Proofs.YtlbghdiebjldjaaGreatDoor.Route Go.Proofs.YtlbghdiebjldjaaGreatDoor.When Go.Proofs.YtlbghdiebjldjaaGreatDoor.Load Go.Proofs.YtlbghdiebjldjaaGreatDoor.Ins Go.Proofs.YtlbghdiebjldjaaGreatDoor.Feas
set_option linter.unusedVariables false
theorem undo_rws {M : Nat} {E : Nat → Prop} {W W' : World} {v : Value} {us : List Value} {ls : List (List (Int × Int))} (h : RwsO M W v us ls) (hc : Chg E W W') (hE : ∀ k, E k → k < M ∨ W.heap.size ≤ k) : Rws W'.heap.size W' v ls := by
 have off : ∀ {b s n : Nat} {e : TypeId} {v : Value} {xs : List Value}, W.ownsRow b e s v n xs → M ≤ b → Off E v := fun h1 hb g hg he => by
  have h2 := World.ownsRow.lt h1 g hg
  have := hE g he
  omega
 have h2 : RwsO M W' v us ls := ⟨hc.owns h.1 (off h.1 (Nat.le_refl _)), fun i u l hu hl => hc.owns (h.2 i u l hu hl) (off (h.2 i u l hu hl) (Nat.le_refl _))⟩
 exact h2.rws
theorem allS_nil {S : St} (h : S.t = []) : allS S = [] := by unfold allS; rw [h]; rfl
set_option maxRecDepth 100000 in
set_option maxHeartbeats 16000000 in
theorem undo_walk (xb : Option Addr) (Nb cb : Nat) (bs : List Int) (a b c f : Int) (ua : Value) (acts : List (Int × Int)) (x : Int) (hx : 0 ≤ x ∧ x < 256) (w : World) (hsg : Sg w) (hrow : RowB w.heap.size w (.slice xb Nb cb) 1 (bs.map byV)) (hby : ∀ x ∈ bs, 0 ≤ x ∧ x < 256) (ha : 0 ≤ a ∧ a < 256) (hb : 0 ≤ b ∧ b < 256) (hf : 0 ≤ f ∧ f < 256)
 (hacts : Acts w.heap.size w ua acts) (hac : ∀ x ∈ acts, (0 ≤ x.1 ∧ x.1 < 256) ∧ 0 ≤ x.2 ∧ x.2 < 256) :
 Calls Tryz.prog 7 #[.agg #[.slice xb Nb cb, .int .u8 a, .int .u8 b, .int .i64 c, .int .u8 f], ua, .int .u8 x] w fun e w' => e = .returned (.bool true) ∧ Below w.heap.size w w' := by
 obtain ⟨q, hq⟩ : ∃ q, w.heap.size = q := ⟨_, rfl⟩
 have hg0 := hsg.pos
 rw [hq] at hg0
 obtain ⟨w0, hw0⟩ : ∃ w0, w.alloc (.cells #[.slice xb Nb cb, .int .u8 a, .int .u8 b, .int .i64 c, .int .u8 f] 26) = w0 := ⟨_, rfl⟩
 have hs0 : w0.heap.size = q + 1 := by rw [← hw0]; simp [hq]
 have hb0 : Below q w w0 := by rw [← hw0]; exact (Below.refl _ _).alloc (by omega) _
 have hd0 : At w0 q 26 #[.slice xb Nb cb, .int .u8 a, .int .u8 b, .int .i64 c, .int .u8 f] := by rw [← hw0]; exact At.new_ _ _ _ hq.symm
 have hsg0 := Lib.hid (hsg.on (by rw [hq]; exact hb0))
 obtain ⟨xa, Na, ca, rfl, -⟩ := hacts.opened
 have hw0' := Lib.hid hw0
 have hq' := Lib.hid hq
 have hmem := Lib.hid (And.intro hrow (And.intro hby (And.intro ha (And.intro hb (And.intro hf (And.intro hacts hac))))))
 have hWk := works_any w0 hsg0.out
 clear hw0 hq hsg hrow hby ha hb hf hacts hac
 go_enter Tryz.func7, Tryz.ntmps7
 go_upto_region 1 with fail
 try simp only [hq'.out]
 try rw [hw0'.out]
 go_wp2_with fail
 refine hWk.mono ?_
 clear hWk
 rintro e w1 ⟨rfl, hb1⟩
 have hd1 := hd0.keep hb1 hd0.inside
 have hB1 := Lib.hid (hb0.trans (hb1.mono (by omega : q ≤ w0.heap.size)))
 have hsg1 := Lib.hid (hsg0.out.on hb1)
 have hs1 : q + 1 ≤ w1.heap.size := by have := hb1.size; omega
 have hDn := done_any xb Nb cb bs a b c f (.slice xa Na ca) acts w1 hsg1.out ((RowB.keep hmem.out.1 hB1.out (by rw [hq'.out]; exact Nat.le_refl _)).more (by have := hq'.out; omega)) hmem.out.2.1 hmem.out.2.2.1 hmem.out.2.2.2.1 hmem.out.2.2.2.2.1 ((RowB.keep hmem.out.2.2.2.2.2.1 hB1.out (by rw [hq'.out]; exact Nat.le_refl _)).more (by have := hq'.out; omega)) hmem.out.2.2.2.2.2.2
 have c0 := hd1.cell 0
 have c1 := hd1.cell 1
 have c2 := hd1.cell 2
 have c3 := hd1.cell 3
 have c4 := hd1.cell 4
 simp at c0 c1 c2 c3 c4
 clear hd0 hb0 hb1 hsg0 hmem hs0
 go_wp2_with fail
 refine hDn.mono ?_
 clear hDn c0 c1 c2 c3 c4 hd1
 rintro e w2 ⟨p, uf, ut, rfl, S, hD⟩
 obtain ⟨m, hm⟩ : ∃ m, w1.heap.size = m := ⟨_, rfl⟩
 rw [hm] at hD hs1
 obtain ⟨⟨D, G, hA, hGq⟩, hok, hsg2⟩ := hD.plan
 obtain ⟨hb2, hs2⟩ := hD.below
 obtain ⟨xf, Nf, cf, rfl, -⟩ := Vhs.opened hD.mem.1
 obtain ⟨xt, Nt, ct, rfl, hNt0, -⟩ := Rqs.opened hD.mem.2
 have hNt := Lib.hid hNt0
 have hNt9 : Nt ≤ 1000 := by rw [← hNt0]; exact hok.tl
 have hA2 := Lib.hid hA
 have ho := Lib.hid hok
 have hsg2' := Lib.hid hsg2
 have hGm := Lib.hid hGq
 have hgm : Hid (1 < m ∧ 0 < m) := Lib.hid (by omega)
 have hB2 := Lib.hid (hB1.out.trans (hb2.mono (by omega : q ≤ m)))
 have hqs : q ≤ w2.heap.size := by omega
 clear hm hD hA hGq hok hsg2 hb2 hNt0 hB1 hsg1 hg0
 by_cases hz : Nt = 0
 · subst hz
   have hnil := Lib.hid (allS_nil (S := S) (List.eq_nil_of_length_eq_zero hNt.out))
   have hAl := All_any w2 hA2.out ho.out
   rw [hnil.out] at hAl
   go_wp2_with fail
   refine hAl.mono ?_
   clear hAl
   rintro e w3 ⟨⟨u3, rfl, hu3⟩, hb3⟩
   obtain ⟨x3, c3, rfl, -, -⟩ := owns_slice hu3
   have hf3 := Lib.hid (hB2.out.trans (hb3.mono hqs))
   clear hu3 hb3
   go_wp2
   go_ret
   exact ⟨rfl, by rw [hq'.out]; exact hf3.out⟩
 obtain ⟨r, hr⟩ : ∃ r, x % (Nt : Int) = r := ⟨_, rfl⟩
 have hrb : 0 ≤ r ∧ r < Nt := by rw [← hr]; exact ⟨Int.emod_nonneg _ (by omega), Int.emod_lt_of_pos _ (by omega)⟩
 have hrI : I64 r := ⟨by omega, by omega⟩
 have hNz : ((Nt : Int) == 0) = false := by simp; omega
 have hNz2 : ¬ ((Nt : Int) = 0) := by omega
 obtain ⟨hx0, hx1⟩ := hx
 have hrI' := Lib.hid hrI
 have hr' := Lib.hid hr
 clear hr hrb hrI
 obtain ⟨E, hE0⟩ : ∃ E, priceE S r = E := ⟨_, rfl⟩
 obtain ⟨I, hI0⟩ : ∃ I, priceI S r = I := ⟨_, rfl⟩
 obtain ⟨n, hn0⟩ : ∃ n, priceN S r = n := ⟨_, rfl⟩
 obtain ⟨T, hT0⟩ : ∃ T, totS S = T := ⟨_, rfl⟩
 have hEE := Lib.hid hE0
 have hII := Lib.hid hI0
 have hnn := Lib.hid hn0
 have hTT := Lib.hid hT0
 clear hE0 hI0 hn0 hT0
 have hsm : Hid (S.rows.length ≤ 1000000 ∧ ∀ l ∈ S.rows, l.length ≤ 1000000) := Lib.hid ⟨by have := ho.out.small; omega, ho.out.shorts⟩
 have hRts := Routes_any w2 hA2.out ho.out
 go_upto_region 9 with fail
 rw [hr'.out]
 clear hNz hNz2
 go_wp2_with fail
 refine hRts.mono ?_
 clear hRts
 rintro e w3 ⟨⟨u3, rfl, us3, hR⟩, hb3⟩
 obtain ⟨x3, c3, rfl, -, -⟩ := owns_slice hR.1
 have hR3 := Lib.hid hR
 have hA3 := Lib.hid (hA2.out.on hb3)
 have hsg3 := Lib.hid (hsg2'.out.on hb3)
 have hB3 := Lib.hid (hB2.out.trans (hb3.mono hqs))
 have hms : m ≤ w3.heap.size := Nat.le_trans hs2 hb3.size
 have hGl : Hid (∀ k, G k → k < w2.heap.size) := Lib.hid (fun k hk => hA2.out.lt k (hA2.out.sub k hk))
 have hT4 := Total_any w3 hA3.out ho.out
 rw [hTT.out] at hT4
 clear hR hb3
 go_wp2_with fail
 refine hT4.mono ?_
 clear hT4
 rintro e w4 ⟨rfl, hb4⟩
 have hA4 := Lib.hid (hA3.out.on hb4)
 have hsg4 := Lib.hid (hsg3.out.on hb4)
 have hs4 : m ≤ w4.heap.size := Nat.le_trans hms hb4.size
 have hC4 := Lib.hid (Chg.of_below (D := fun k => G k ∨ w3.heap.size ≤ k) hb4)
 have hP5 := Price_any r w4 hA4.out ho.out hsg4.out
 rw [hEE.out, hII.out, hnn.out] at hP5
 clear hb4
 go_wp2_with fail
 refine hP5.mono ?_
 clear hP5
 rintro e w5 ⟨rfl, hb5⟩
 have hA5 := Lib.hid (hA4.out.on hb5)
 have hsg5 := Lib.hid (hsg4.out.on hb5)
 have hs5 : m ≤ w5.heap.size := Nat.le_trans hs4 hb5.size
 have hC5 := Lib.hid (hC4.out.trans (Chg.of_below hb5))
 have hR6 := Routes_any w5 hA5.out ho.out
 clear hb5
 go_wp2_with fail
 refine hR6.mono ?_
 clear hR6
 rintro e w6 ⟨⟨u6, rfl, us6, hR⟩, hb6⟩
 obtain ⟨x6, c6, rfl, -, -⟩ := owns_slice hR.1
 have hA6 := Lib.hid (hA5.out.on hb6)
 have hsg6 := Lib.hid (hsg5.out.on hb6)
 have hs6 : m ≤ w6.heap.size := Nat.le_trans hs5 hb6.size
 have hC6 := Lib.hid (hC5.out.trans (Chg.of_below hb6))
 have hS7 := refSame_any _ _ S.rows S.rows hsm.out.1 hsm.out.2 w6 hR.rws (undo_rws hR3.out hC6.out (fun k hk => hk.imp (hGl.out k) id))
 rw [decide_eq_true (rfl : S.rows = S.rows)] at hS7
 clear hR hb6
 go_wp2_with fail
 refine hS7.mono ?_
 clear hS7
 rintro e w7 ⟨rfl, hb7⟩
 have hA7 := Lib.hid (hA6.out.on hb7)
 have hsg7 := Lib.hid (hsg6.out.on hb7)
 have hs7 : m ≤ w7.heap.size := Nat.le_trans hs6 hb7.size
 have hC7 := Lib.hid (hC6.out.trans (Chg.of_below hb7))
 have hT8 := Total_any w7 hA7.out ho.out
 rw [hTT.out] at hT8
 clear hb7
 go_wp2_with fail
 refine hT8.mono ?_
 clear hT8
 rintro e w8 ⟨rfl, hb8⟩
 have hA8 := Lib.hid (hA7.out.on hb8)
 have hsg8 := Lib.hid (hsg7.out.on hb8)
 have hs8 : m ≤ w8.heap.size := Nat.le_trans hs7 hb8.size
 have hC8 := Lib.hid (hC7.out.trans (Chg.of_below hb8))
 have hPu := Put_any r w8 hA8.out ho.out hsg8.out
 rw [hEE.out, hnn.out] at hPu
 clear hb8
 go_wp2_with fail
 refine hPu.mono ?_
 clear hPu
 rintro e w9 ⟨rfl, ⟨D9, G9, hP9, -, hG9⟩, hc9⟩
 have hA9 := Lib.hid hP9
 have hG9' := Lib.hid hG9
 have hb9 : Hid (Below m w8 w9) := Lib.hid (hc9.below hs8 hGm.out)
 have hsg9 := Lib.hid (hsg8.out.keep hb9.out hgm.out)
 have hs9 : m ≤ w9.heap.size := Nat.le_trans hs8 hc9.size
 have hC9 := Lib.hid (hC8.out.trans (hc9.mono (fun k hk => .inl hk)))
 have hok9 := Lib.hid (put_ok ho.out r)
 have hs38 : w3.heap.size ≤ w8.heap.size := hC8.out.size
 clear hP9 hG9 hc9
 cases hE0 : (E == 0)
 · have hE1 : (E != 0) = true := by simpa using hE0
   have hno := Lib.hid (putS_no (S := S) (r := r) (by rw [hEE.out]; simpa using hE0))
   have hR10 := Routes_any w9 hA9.out hok9.out
   rw [hno.out] at hR10
   go_wp2_with fail
   refine hR10.mono ?_
   clear hR10
   rintro e w10 ⟨⟨u10, rfl, us10, hR⟩, hb10⟩
   obtain ⟨x10, c10, rfl, -, -⟩ := owns_slice hR.1
   have hC10 := Lib.hid (hC9.out.trans (Chg.of_below hb10))
   have hS11 := refSame_any _ _ S.rows S.rows hsm.out.1 hsm.out.2 w10 hR.rws (undo_rws hR3.out hC10.out (fun k hk => hk.imp (hGl.out k) id))
   rw [decide_eq_true (rfl : S.rows = S.rows)] at hS11
   clear hR hb10
   go_wp2_with fail
   refine hS11.mono ?_
   clear hS11
   rintro e w11 ⟨rfl, hb11⟩
   have hf := Lib.hid (hB3.out.trans ((hC10.out.trans (Chg.of_below hb11)).below (n := q) (by omega) (fun k hk => hk.elim (fun h => by have := hGm.out k h; omega) (fun h => by omega))))
   clear hb11
   go_wp2
   go_ret
   exact ⟨rfl, by rw [hq'.out]; exact hf.out⟩
 have hE1 : (E != 0) = false := by simpa using hE0
 obtain rfl : E = 0 := by simpa using hE0
 have hun := Lib.hid (undo ho.out hEE.out)
 have hTk := Take_any r w9 hA9.out hok9.out hrI'.out
 rw [hun.out.2, show takeE (putS S r) r = 0 by unfold takeE; rw [if_neg (by have := hun.out.1; omega)]] at hTk
 go_wp2_with fail
 refine hTk.mono ?_
 clear hTk
 rintro e w10 ⟨rfl, ⟨D10, G10, hP10, -, -⟩, hc10⟩
 have hA10 := Lib.hid hP10
 have hb10 : Hid (Below m w9 w10) := Lib.hid (hc10.below hs9 (fun k hk => (hG9'.out k hk).elim (hGm.out k) (fun h => by omega)))
 have hsg10 := Lib.hid (hsg9.out.keep hb10.out hgm.out)
 have hs10 : m ≤ w10.heap.size := Nat.le_trans hs9 hc10.size
 have hC10 := Lib.hid (hC9.out.trans (hc10.mono (fun k hk => (hG9'.out k hk).imp id (fun h => by omega))))
 have hP11 := Price_any r w10 hA10.out ho.out hsg10.out
 rw [hEE.out, hII.out, hnn.out] at hP11
 clear hP10 hc10
 go_wp2_with fail
 refine hP11.mono ?_
 clear hP11
 rintro e w11 ⟨rfl, hb11⟩
 have hA11 := Lib.hid (hA10.out.on hb11)
 have hs11 : m ≤ w11.heap.size := Nat.le_trans hs10 hb11.size
 have hC11 := Lib.hid (hC10.out.trans (Chg.of_below hb11))
 have hR12 := Routes_any w11 hA11.out ho.out
 clear hb11
 go_wp2_with fail
 refine hR12.mono ?_
 clear hR12
 rintro e w12 ⟨⟨u12, rfl, us12, hR⟩, hb12⟩
 obtain ⟨x12, c12, rfl, -, -⟩ := owns_slice hR.1
 have hA12 := Lib.hid (hA11.out.on hb12)
 have hs12 : m ≤ w12.heap.size := Nat.le_trans hs11 hb12.size
 have hC12 := Lib.hid (hC11.out.trans (Chg.of_below hb12))
 have hS13 := refSame_any _ _ S.rows S.rows hsm.out.1 hsm.out.2 w12 hR.rws (undo_rws hR3.out hC12.out (fun k hk => hk.imp (hGl.out k) id))
 rw [decide_eq_true (rfl : S.rows = S.rows)] at hS13
 clear hR hb12
 go_wp2_with fail
 refine hS13.mono ?_
 clear hS13
 rintro e w13 ⟨rfl, hb13⟩
 have hA13 := Lib.hid (hA12.out.on hb13)
 have hC13 := Lib.hid (hC12.out.trans (Chg.of_below hb13))
 have hT14 := Total_any w13 hA13.out ho.out
 rw [hTT.out] at hT14
 clear hb13
 go_wp2_with fail
 refine hT14.mono ?_
 clear hT14
 rintro e w14 ⟨rfl, hb14⟩
 have hf := Lib.hid (hB3.out.trans ((hC13.out.trans (Chg.of_below hb14)).below (n := q) (by omega) (fun k hk => hk.elim (fun h => by have := hGm.out k h; omega) (fun h => by omega))))
 clear hb14
 go_wp2
 go_ret
 exact ⟨rfl, by rw [hq'.out]; exact hf.out⟩
end Go.Proofs.YtlbghdiebjldjaaGreatDoor.Plan
/-
  PlanUndo, who takes what was put last has all as it was, what was priced ahead is what it costs, and a price changes nothing, returns true: for all drafts, acts (thirty at most), and which request. Its condition: package load's variable signs and package cheap's variable none are as the program's text lays them when the call begins, which the card ties to that text.
-/
namespace Go.Proofs.YtlbghdiebjldjaaGreatDoor.planUndo
open Go.ChangeShapes Go.WideShapes Go.ChangeAt Go.RowKit Go.Sort
open Go.Proofs.YtlbghdiebjldjaaGreatDoor.Laid Go.Proofs.YtlbghdiebjldjaaGreatDoor.When Go.Proofs.YtlbghdiebjldjaaGreatDoor.Plan
set_option linter.unusedVariables false
set_option maxRecDepth 100000 in
theorem lifted (os : Os) (started : os.Started) (H : Type) (enc : TypeId × Value → H) :
 ReturnsInHanded {} Tryz.checked os 7 .any (fun w args => (Rows.planUndoSpec.pre enc Tryz.prog Tryz.f7 [] false w args ∧ laidMetH Tryz.prog Rows.planUndoRow.laid w) ∧ sizedMet enc Tryz.prog Tryz.f7 (OpenSpec.ofChange Rows.planUndoSpec) false w args)
  (Rows.planUndoSpec.post enc Tryz.prog Tryz.f7 false true false false) := by
 refine returnsInHanded_of_change_and (C := Tryz.checked) (X := fun w _ => laidMetH Tryz.prog Rows.planUndoRow.laid w) (fun _ _ _ hh h => h.of_heap hh) own started (by kernel_rfl) Tryz.func7
  (ChangeSpec.witness_shaped (enc := enc) (C := Tryz.checked) (os := os) (X := fun w _ => laidMetH Tryz.prog Rows.planUndoRow.laid w) false (World.doorLaid Tryz.prog 400 os) #[.agg #[.slice none 0 0, .int .u8 0, .int .u8 0, .int .i64 0, .int .u8 0], .slice none 0 0, .int .u8 0] 8 rfl (World.shaped_of_RefB (by kernel_rfl) (by kernel_rfl)) (by kernel_rfl) (by kernel_rfl) (by kernel_rfl) (door_met os _)) ?_
 intro W base args ds gs before hval0 hW _ _ hL _
 have hval : ∀ (j : Nat) t v, Tryz.f7.params[j]? = some t → args[j]? = some v → Value.okWide Tryz.prog W .any base t v := hval0
 have hW' := hW
 obtain ⟨p, q, hA0, hV, rfl, hfz, hnd⟩ := hW
 have hA : DataW.TrodAll enc Tryz.prog W 0 (fun _ => true) true Tryz.f7.params.toList args.toList ds p := hA0
 rw [Tryz.params7] at hA hval
 obtain ⟨v0, vs0, d0, ds0, p0, q0, hargs, rfl, rfl, h0, r0⟩ := trodAll_cons hA
 obtain ⟨v1, vs1, d1, ds1, p1, q1, rfl, rfl, rfl, h1, r1⟩ := trodAll_cons r0
 obtain ⟨v2, vs2, d2, ds2, p2, q2, rfl, rfl, rfl, h2, r2⟩ := trodAll_cons r1
 obtain ⟨rfl, rfl, rfl⟩ := trodAll_nil r2
 obtain rfl : args = #[v0, v1, v2] := by cases args; simp_all
 obtain ⟨rfl, rfl⟩ := trodVars_none hV
 obtain ⟨xb, Nb, cb, bs, a, b, c, f, rfl, hbs, hby, ha, hb, hff⟩ := openDraft13 (hval 0 _ _ rfl rfl) h0
 obtain ⟨acts, hacts, hac⟩ := openActs (hval 1 _ _ rfl rfl) h1
 obtain ⟨x, rfl, rfl, rfl, wx⟩ := open_int Tryz.underlying5 (hval 2 5 v2 rfl rfl) h2
 exact (undo_walk xb Nb cb bs a b c f v1 acts x (by have := u8_ends wx; omega) W (sg_of_laid hL) hbs hby ha hb hff hacts hac).mono fun e W' ⟨he, hb⟩ => ⟨_, he, Close.law_post laidOut (by kernel_rfl) rfl (by kernel_rfl) Tryz.underlying4 hW' rfl hb⟩
theorem over : Rows.PlanUndoSaid :=
 OpenClaim.holds_of_wide 7 Tryz.f7 rfl rfl rfl rfl rfl rfl rfl ⟨rfl, rfl, rfl, rfl, rfl⟩ rfl rfl rfl rfl rfl (by kernel_rfl) Tryz.func7 (by kernel_rfl)
  (of_decide_eq_true (by kernel_rfl)) (by unfold Func.isWrapper; first | (rw [if_pos (by decide +kernel)]; kernel_rfl) | (rw [if_neg (by decide +kernel)]; exact ⟨rfl, rfl⟩))
  (fun os started H enc _ => lifted os started H enc)
theorem proved : Rows.PlanUndoCardSaid :=
 Claim7.holds_tied_plain_at .later [] [.data, .data] true (true, "e668552edf091549f3a33a44068f668d0797b8d5ae29daa3679ffd99e7045ff1") true
  over (fun _ h => by cases h) (by kernel_rfl) (fun _ h => by cases h) planUndo_row_tie rfl ⟨rfl, rfl⟩ (by kernel_rfl) rfl
  (fun f fn hf hfn => by
   obtain rfl : f = 7 := Option.some.inj ((show Tryz.prog.funcNamed "consign/consignlaw13.PlanUndo" = some 7 by kernel_rfl).symm.trans hf) |>.symm
   obtain rfl : fn = Tryz.f7 := (Option.some.inj (Tryz.func7.symm.trans hfn)).symm
   exact ⟨by kernel_rfl, fun j t ht => by
    rw [Tryz.params7] at ht
    have hm : t ∈ [26, 27, 5] := by simpa using Array.mem_of_getElem? ht
    have hall : ([26, 27, 5].all fun u => !Tryz.prog.wantsStandIn u) = true := by kernel_rfl
    exact (show Tryz.prog.wantsStandIn t = false by simpa using List.all_eq_true.1 hall t hm)⟩)
  (by kernel_rfl)
#print axioms proved
end Go.Proofs.YtlbghdiebjldjaaGreatDoor.planUndo

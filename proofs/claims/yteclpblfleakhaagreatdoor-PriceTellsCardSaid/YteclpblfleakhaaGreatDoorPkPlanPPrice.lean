import Derived.Test.YteclpblfleakhaaGreatDoorPkPlanPRead
import Derived.Test.YteclpblfleakhaaGreatDoorPkPriceCheapest

namespace Go.Proofs.YteclpblfleakhaaGreatDoor.Plan
open Go.RowKit Go.Sort Go.Proofs.YteclpblfleakhaaGreatDoor.Mem Go.Proofs.YteclpblfleakhaaGreatDoor.Route Go.Proofs.YteclpblfleakhaaGreatDoor.When Go.Proofs.YteclpblfleakhaaGreatDoor.Load Go.Proofs.YteclpblfleakhaaGreatDoor.Ins Go.Proofs.YteclpblfleakhaaGreatDoor.Cheap Go.Proofs.YteclpblfleakhaaGreatDoor.Feas
set_option linter.unusedVariables false
def pI (S : St) (r : Int) (k : Nat) : Int := if (accP (bestF S r) k).1 < 0 then 0 else (accP (bestF S r) k).1
def pN (S : St) (r : Int) (k : Nat) : Int := if (accP (bestF S r) k).1 < 0 then 0 else (accP (bestF S r) k).2
def pE (S : St) (r : Int) (k : Nat) : Int := if (accP (bestF S r) k).1 < 0 then 12 else 0
theorem p_no {S : St} {r : Int} {k : Nat} (h : (accP (bestF S r) k).1 < 0) : pI S r k = 0 ∧ pN S r k = 0 ∧ pE S r k = 12 := by unfold pI pN pE; rw [if_pos h, if_pos h, if_pos h]; exact ⟨rfl, rfl, rfl⟩
theorem p_yes {S : St} {r : Int} {k : Nat} (h : ¬ (accP (bestF S r) k).1 < 0) : pI S r k = (accP (bestF S r) k).1 ∧ pN S r k = (accP (bestF S r) k).2 ∧ pE S r k = 0 := by unfold pI pN pE; rw [if_neg h, if_neg h, if_neg h]; exact ⟨rfl, rfl, rfl⟩
theorem p_skip {S : St} {r : Int} {k : Nat} (h : accP (bestF S r) (k + 1) = accP (bestF S r) k) : pI S r (k + 1) = pI S r k ∧ pN S r (k + 1) = pN S r k ∧ pE S r (k + 1) = pE S r k := by unfold pI pN pE; rw [h]; exact ⟨rfl, rfl, rfl⟩
theorem p_take {S : St} {r : Int} {k : Nat} {n : Int} (h : accP (bestF S r) (k + 1) = ((k : Int), n)) : pI S r (k + 1) = k ∧ pN S r (k + 1) = n ∧ pE S r (k + 1) = 0 := by
 unfold pI pN pE
 rw [h]
 have : ¬ (((k : Int), n).1 < 0) := by simp
 rw [if_neg this, if_neg this, if_neg this]
 exact ⟨rfl, rfl, rfl⟩
set_option maxRecDepth 100000 in
set_option maxHeartbeats 8000000 in
theorem Price_any {D G : Nat → Prop} {p : Nat} {S : St} (r : Int) (w : World) (h : PlanAt D G w p S) (ho : Ok S) (hsg : Sg w) :
 Calls Tryz.prog 24 #[.pointer (some ⟨p, 0, none⟩), .int .i64 r] w fun e w' =>
  e = .returned (.tuple #[.int .i64 (priceI S r), .int .i64 (priceN S r), .int .i64 (priceE S r)]) ∧ Below w.heap.size w w' := by
 have hHas := fun hr : I64 r => Has_same r w h hr
 obtain ⟨gt, gm, vt, cap, us, h⟩ := h
 obtain ⟨xt, Nt, ct, rfl, hNt0, htc1, htc2, -⟩ := Rqs.opened (show Rqs w.heap.size w vt S.t from h.t.1)
 obtain ⟨hc1, hc2⟩ := h.bd
 unfold maxLen at htc2 hc2
 obtain ⟨N, hN0⟩ : ∃ N, S.vs.length = N := ⟨_, rfl⟩
 have hN4 : N ≤ 4 := by rw [← hN0]; exact ho.cnt.2
 have hbx := h.box
 rw [hN0] at hbx hc1
 have b0 := hbx.cell 0
 have b1 := hbx.cell 1
 simp at b0 b1
 have hp := h.box.inside
 have hin := Lib.hid (inT_iff (t := S.t) (r := r))
 rw [hNt0] at hin
 have h' := Lib.hid h
 have ho' := Lib.hid ho
 have hbx' := Lib.hid hbx
 have hN := Lib.hid hN0
 have hsg' := Lib.hid hsg
 have htl : Nt ≤ 1000 := by rw [← hNt0]; exact ho.tl
 clear h ho hNt0 hN0 hbx hsg
 by_cases h1 : r < 0
 · have he := Lib.hid (priceE_stop (S := S) (r := r) (by cases hb : inT S.t r; rfl; have := hin.out.1 hb; omega))
   have hz := Lib.hid (price_no (S := S) (r := r) (by rw [he.out]; omega))
   clear hHas
   go_enter Tryz.func24, Tryz.ntmps24
   go_wp2
   refine bodyPost_ret (v := .tuple #[.int .i64 0, .int .i64 0, .int .i64 8]) (by simp [results, Tryz.results24, go_sem]) rfl ?_
   exact ⟨ret_price hz.out.1.symm hz.out.2.symm he.out.symm, Below.refl _ _⟩
 by_cases h2 : (Nt : Int) ≤ r
 · have he := Lib.hid (priceE_stop (S := S) (r := r) (by cases hb : inT S.t r; rfl; have := hin.out.1 hb; omega))
   have hz := Lib.hid (price_no (S := S) (r := r) (by rw [he.out]; omega))
   clear hHas
   go_enter Tryz.func24, Tryz.ntmps24
   go_wp2
   refine bodyPost_ret (v := .tuple #[.int .i64 0, .int .i64 0, .int .i64 8]) (by simp [results, Tryz.results24, go_sem]) rfl ?_
   exact ⟨ret_price hz.out.1.symm hz.out.2.symm he.out.symm, Below.refl _ _⟩
 have hinT : Hid (inT S.t r = true) := Lib.hid (hin.out.2 ⟨by omega, by omega⟩)
 have hrI : I64 r := ⟨by omega, by omega⟩
 replace hHas := hHas hrI
 obtain ⟨V, hV⟩ : ∃ V, whereV S.rows r = V := ⟨_, rfl⟩
 rw [hV] at hHas
 have hV' := Lib.hid hV
 clear hV hin
 by_cases h3 : 0 ≤ V
 · have he := Lib.hid (priceE_twice (S := S) (r := r) hinT.out (by rw [hV'.out]; exact h3))
   have hz := Lib.hid (price_no (S := S) (r := r) (by rw [he.out]; omega))
   rw [show decide (0 ≤ V) = true by simp [h3]] at hHas
   go_enter Tryz.func24, Tryz.ntmps24
   go_wp2_with fail
   refine hHas.mono ?_
   rintro e w2 ⟨rfl, rfl⟩
   clear hHas
   go_wp2
   refine bodyPost_ret (v := .tuple #[.int .i64 0, .int .i64 0, .int .i64 13]) (by simp [results, Tryz.results24, go_sem]) rfl ?_
   exact ⟨ret_price hz.out.1.symm hz.out.2.symm he.out.symm, Below.refl _ _⟩
 have hwn : Hid (whereV S.rows r < 0) := Lib.hid (by rw [hV'.out]; omega)
 rw [show decide (0 ≤ V) = false by simp; omega] at hHas
 go_enter Tryz.func24, Tryz.ntmps24
 go_wp2_with fail
 refine hHas.mono ?_
 rintro e w2 ⟨rfl, rfl⟩
 clear hHas b1
 go_wp2
 go_loopw [4, 5, 6, 35] (fun a n e i wr => ∃ k : Nat, k ≤ N ∧ i = .int .i64 k ∧ a = .int .i64 (pI S r k) ∧ n = .int .i64 (pN S r k) ∧ e = .int .i64 (pE S r k) ∧ Below w2.heap.size w2 wr)
  (fun _ _ _ c _ => N - (intOf c).toNat)
 case atStart => exact ⟨0, Nat.zero_le _, rfl, rfl, rfl, rfl, Below.refl _ _⟩
 case round =>
  obtain ⟨k, hk, rfl, rfl, rfl, rfl, hbw⟩ := hrel
  have hA := h'.out.on hbw
  clear b0
  obtain ⟨I0, hI0⟩ : ∃ I0, pI S r k = I0 := ⟨_, rfl⟩
  obtain ⟨N0, hN00⟩ : ∃ N0, pN S r k = N0 := ⟨_, rfl⟩
  obtain ⟨E0, hE00⟩ : ∃ E0, pE S r k = E0 := ⟨_, rfl⟩
  rw [hI0, hN00, hE00]
  by_cases hlt : k < N
  · obtain ⟨v, hv⟩ : ∃ v, S.vs[k]? = some v := ⟨S.vs[k]'(by rw [hN.out]; exact hlt), List.getElem?_eq_getElem _⟩
    obtain ⟨l, hl⟩ : ∃ l, S.rows[k]? = some l := ⟨S.rows[k]'(by rw [ho'.out.len, hN.out]; exact hlt), List.getElem?_eq_getElem _⟩
    obtain ⟨u, hu, q0, q1, q2, q3, q4, q5⟩ := hA.cells hv
    have hrow := (hA.rows k u l hu hl).1
    have hgt := hA.gtIn
    obtain ⟨hd, he, -, hnum⟩ := ho'.out.dr k v l hv hl
    have hl16 : l.length ≤ 1000000 := by have := hd.hn; omega
    have hkF : (k : Int) < (N : Int) := by omega
    have hkN := Lib.hid hlt
    have hfk := Lib.hid (bestF_at (r := r) hv hl)
    obtain ⟨xu, Nu, cu, rfl, -⟩ := Row.opened (show Row wr.heap.size wr u l from hrow)
    obtain ⟨E, hE0⟩ : ∃ E, bestE v l S.t r = E := ⟨_, rfl⟩
    obtain ⟨B, hB0⟩ : ∃ B, bestW v l S.t r = B := ⟨_, rfl⟩
    rw [hE0, hB0] at hfk
    have hEE := Lib.hid hE0
    have hBB := Lib.hid hB0
    have hIN := Lib.hid (And.intro hI0 (And.intro hN00 hE00))
    obtain ⟨wq, hwq⟩ : ∃ wq, wr.alloc (.cells #[.int .i64 v.hx, .int .i64 v.hy, .int .i64 v.cp, .int .i64 v.st, .int .i64 v.en, .slice xu Nu cu] 74) = wq := ⟨_, rfl⟩
    obtain ⟨q, hq⟩ : ∃ q, wr.heap.size = q := ⟨_, rfl⟩
    have hA1 : At wq q 74 #[.int .i64 v.hx, .int .i64 v.hy, .int .i64 v.cp, .int .i64 v.st, .int .i64 v.en, .slice xu Nu cu] := by rw [← hwq]; exact At.new_ _ _ _ hq.symm
    have hb1 : Below wr.heap.size wr wq := by rw [← hwq]; exact (Below.refl _ _).alloc (Nat.le_refl _) _
    have hP1 := hbx'.out.keep (hbw.trans (hb1.mono hbw.size)) hbx'.out.inside
    have hrow' := Lib.hid (Row.on (show Row wr.heap.size wr _ l from hrow) hb1)
    have hT' := Lib.hid (Rqs.on (show Rqs wr.heap.size wr (.slice xt Nt ct) S.t from hA.t.1) hb1)
    have hnum' := Lib.hid hnum
    have hB1 := Lib.hid (hbw.trans (hb1.mono hbw.size))
    have hsg1 := Lib.hid (hsg'.out.on hB1.out)
    have hszr : w2.heap.size ≤ wq.heap.size := hB1.out.size
    have q0' := hA1.cell 0
    have q1' := hA1.cell 1
    have q2' := hA1.cell 2
    have q3' := hA1.cell 3
    have q4' := hA1.cell 4
    have q5' := hA1.cell 5
    have pb1 := hP1.cell 1
    simp at q0' q1' q2' q3' q4' q5' pb1
    have hqi := hA1.inside
    have hpi := hP1.inside
    have hwq' := Lib.hid hwq
    have hq' := Lib.hid hq
    have hbo' := Lib.hid hbw
    clear hv hl hu hrow hd he hnum hbw hA hE0 hB0 hI0 hN00 hE00 hwq hq hb1 hA1 hP1
    have b0 := (hbx'.out.keep hbo'.out hbx'.out.inside).cell 0
    simp at b0
    have hpo := (hbx'.out.keep hbo'.out hbx'.out.inside).inside
    go_upto_region 11 with fail
    try simp only [hq'.out]
    rw [hwq'.out]
    clear q0 q1 q2 q3 q4 q5 b0
    refine Sched.wp_region_sched 15 (fun W W' => Below wq.heap.size W W') (VV [some (.pointer (some ⟨q, 0, none⟩)), some (.agg #[.int .i64 v.hx, .int .i64 v.hy, .int .i64 v.cp, .int .i64 v.st, .int .i64 v.en]), some (.pointer (some ⟨q, 5, none⟩)), some (.slice xu Nu cu), some (.pointer (some ⟨p, 0, none⟩)), some (.pointer (some ⟨p, 0, none⟩)), some (.pointer (some ⟨p, 1, none⟩)), some (.slice xt Nt ct), some (.int .i64 r), some (.tuple #[.agg #[.int .i64 B.i, .int .i64 B.j, .int .i64 B.n], .int .i64 E]), some (.tuple #[.agg #[.int .i64 B.i, .int .i64 B.j, .int .i64 B.n], .int .i64 E]), some (.agg #[.int .i64 B.i, .int .i64 B.j, .int .i64 B.n]), some (.int .i64 E), none, none]) (ZP 13 14 wq.heap.size 102 (.int .i64 B.i) (.int .i64 B.j) (.int .i64 B.n)) (by kernel_rfl) (by kernel_rfl) (by kernel_rfl) (fun h1 h2 => h1.trans h2) (fun h1 _ => VV.keep h1) (Below.refl _ _).drew (fun ys => ZP.start _ _) (Sched.StepsA.steps (by kernel_rfl) ?hSA) ?hQA
    case hSA =>
     simp only [List.take_succ_cons, List.take_zero]
     refine ⟨?_, ?_, ?_, ?_, ?_, ?_, ?_, ?_, ?_, ?_, ?_, ?_, ?_, ?_, ?_, trivial⟩
     · intro ys done W aa hE hn hF hD hZ hG hO
       replace hE : Below wq.heap.size wq W := hE
       have hsz : wq.heap.size ≤ W.heap.size := hE.size
       have o8 := hO 8 (by kernel_rfl)
       replace o8 : aa.tmps[8]? = some (.pointer (some ⟨q, 0, none⟩)) := o8
       have z7 : q < W.heap.size := Nat.lt_of_lt_of_le hqi hE.size
       go_wp2_with fail
       exact ⟨_, rfl, Below.refl _ _, VV.val rfl rfl, hZ.light (by decide) (by decide) (Below.refl _ _)⟩
     · intro ys done W aa hE hn hF hD hZ hG hO
       replace hE : Below wq.heap.size wq W := hE
       have hsz : wq.heap.size ≤ W.heap.size := hE.size
       have v0 := (hF 0 (by decide) (hD 0 (by kernel_rfl))).eq rfl
       have g0 := hG 0 41 rfl (Nat.le_of_ble_eq_true rfl)
       rw [v0] at g0
       have z0 := (hE.cell (p := ⟨q, 0, none⟩) hqi).trans q0'
       have z1 := (hE.cell (p := ⟨q, 1, none⟩) hqi).trans q1'
       have z2 := (hE.cell (p := ⟨q, 2, none⟩) hqi).trans q2'
       have z3 := (hE.cell (p := ⟨q, 3, none⟩) hqi).trans q3'
       have z4 := (hE.cell (p := ⟨q, 4, none⟩) hqi).trans q4'
       have z7 : q < W.heap.size := Nat.lt_of_lt_of_le hqi hE.size
       go_wp2_with fail
       exact ⟨_, rfl, Below.refl _ _, VV.val rfl rfl, hZ.light (by decide) (by decide) (Below.refl _ _)⟩
     · intro ys done W aa hE hn hF hD hZ hG hO
       replace hE : Below wq.heap.size wq W := hE
       have hsz : wq.heap.size ≤ W.heap.size := hE.size
       have o8 := hO 8 (by kernel_rfl)
       replace o8 : aa.tmps[8]? = some (.pointer (some ⟨q, 0, none⟩)) := o8
       have z7 : q < W.heap.size := Nat.lt_of_lt_of_le hqi hE.size
       go_wp2_with fail
       exact ⟨_, rfl, Below.refl _ _, VV.val rfl rfl, hZ.light (by decide) (by decide) (Below.refl _ _)⟩
     · intro ys done W aa hE hn hF hD hZ hG hO
       replace hE : Below wq.heap.size wq W := hE
       have hsz : wq.heap.size ≤ W.heap.size := hE.size
       have v2 := (hF 2 (by decide) (hD 2 (by kernel_rfl))).eq rfl
       have g2 := hG 2 43 rfl (Nat.le_of_ble_eq_true rfl)
       rw [v2] at g2
       have z5 := (hE.cell (p := ⟨q, 5, none⟩) hqi).trans q5'
       have z7 : q < W.heap.size := Nat.lt_of_lt_of_le hqi hE.size
       go_wp2_with fail
       exact ⟨_, rfl, Below.refl _ _, VV.val rfl rfl, hZ.light (by decide) (by decide) (Below.refl _ _)⟩
     · intro ys done W aa hE hn hF hD hZ hG hO
       replace hE : Below wq.heap.size wq W := hE
       have hsz : wq.heap.size ≤ W.heap.size := hE.size
       have o0 := hO 0 (by kernel_rfl)
       replace o0 : aa.tmps[0]? = some (.pointer (some ⟨p, 0, none⟩)) := o0
       go_wp2_with fail
       exact ⟨_, rfl, Below.refl _ _, VV.val rfl rfl, hZ.light (by decide) (by decide) (Below.refl _ _)⟩
     · intro ys done W aa hE hn hF hD hZ hG hO
       replace hE : Below wq.heap.size wq W := hE
       have hsz : wq.heap.size ≤ W.heap.size := hE.size
       have v4 := (hF 4 (by decide) (hD 4 (by kernel_rfl))).eq rfl
       have g4 := hG 4 45 rfl (Nat.le_of_ble_eq_true rfl)
       rw [v4] at g4
       have z7 : p < W.heap.size := Nat.lt_of_lt_of_le hpi hE.size
       go_wp2_with fail
       exact ⟨_, rfl, Below.refl _ _, VV.val rfl rfl, hZ.light (by decide) (by decide) (Below.refl _ _)⟩
     · intro ys done W aa hE hn hF hD hZ hG hO
       replace hE : Below wq.heap.size wq W := hE
       have hsz : wq.heap.size ≤ W.heap.size := hE.size
       have v5 := (hF 5 (by decide) (hD 5 (by kernel_rfl))).eq rfl
       have g5 := hG 5 46 rfl (Nat.le_of_ble_eq_true rfl)
       rw [v5] at g5
       have z7 : p < W.heap.size := Nat.lt_of_lt_of_le hpi hE.size
       go_wp2_with fail
       exact ⟨_, rfl, Below.refl _ _, VV.val rfl rfl, hZ.light (by decide) (by decide) (Below.refl _ _)⟩
     · intro ys done W aa hE hn hF hD hZ hG hO
       replace hE : Below wq.heap.size wq W := hE
       have hsz : wq.heap.size ≤ W.heap.size := hE.size
       have v6 := (hF 6 (by decide) (hD 6 (by kernel_rfl))).eq rfl
       have g6 := hG 6 47 rfl (Nat.le_of_ble_eq_true rfl)
       rw [v6] at g6
       have z6 := (hE.cell (p := ⟨p, 1, none⟩) hpi).trans pb1
       have z7 : p < W.heap.size := Nat.lt_of_lt_of_le hpi hE.size
       go_wp2_with fail
       exact ⟨_, rfl, Below.refl _ _, VV.val rfl rfl, hZ.light (by decide) (by decide) (Below.refl _ _)⟩
     · intro ys done W aa hE hn hF hD hZ hG hO
       replace hE : Below wq.heap.size wq W := hE
       have hsz : wq.heap.size ≤ W.heap.size := hE.size
       have o1 := hO 1 (by kernel_rfl)
       replace o1 : aa.tmps[1]? = some (.int .i64 r) := o1
       go_wp2_with fail
       exact ⟨_, rfl, Below.refl _ _, VV.val rfl rfl, hZ.light (by decide) (by decide) (Below.refl _ _)⟩
     · intro ys done W aa hE hn hF hD hZ hG hO
       replace hE : Below wq.heap.size wq W := hE
       have hsz : wq.heap.size ≤ W.heap.size := hE.size
       have v1 := (hF 1 (by decide) (hD 1 (by kernel_rfl))).eq rfl
       have g1 := hG 1 42 rfl (Nat.le_of_ble_eq_true rfl)
       rw [v1] at g1
       have v3 := (hF 3 (by decide) (hD 3 (by kernel_rfl))).eq rfl
       have g3 := hG 3 44 rfl (Nat.le_of_ble_eq_true rfl)
       rw [v3] at g3
       have v7 := (hF 7 (by decide) (hD 7 (by kernel_rfl))).eq rfl
       have g7 := hG 7 48 rfl (Nat.le_of_ble_eq_true rfl)
       rw [v7] at g7
       have v8 := (hF 8 (by decide) (hD 8 (by kernel_rfl))).eq rfl
       have g8 := hG 8 49 rfl (Nat.le_of_ble_eq_true rfl)
       rw [v8] at g8
       go_wp2_with fail
       refine (Best_any v _ _ l S.t hl16 hnum'.out r W (hsg1.out.on hE) (hrow'.out.on hE) (hT'.out.on hE)).mono ?_
       rintro e W' ⟨rfl, hb'⟩
       rw [hEE.out, hBB.out]
       unfold encW
       replace hb' := Lib.hid hb'
       go_wp2_with fail
       exact ⟨_, rfl, hb'.out.mono hsz, VV.val rfl rfl, hZ.light (by decide) (by decide) hb'.out⟩
     · intro ys done W aa hE hn hF hD hZ hG hO
       replace hE : Below wq.heap.size wq W := hE
       have hsz : wq.heap.size ≤ W.heap.size := hE.size
       have v9 := (hF 9 (by decide) (hD 9 (by kernel_rfl))).eq rfl
       have g9 := hG 9 50 rfl (Nat.le_of_ble_eq_true rfl)
       rw [v9] at g9
       go_wp2_with fail
       exact ⟨_, rfl, Below.refl _ _, VV.val rfl rfl, hZ.light (by decide) (by decide) (Below.refl _ _)⟩
     · intro ys done W aa hE hn hF hD hZ hG hO
       replace hE : Below wq.heap.size wq W := hE
       have hsz : wq.heap.size ≤ W.heap.size := hE.size
       have v10 := (hF 10 (by decide) (hD 10 (by kernel_rfl))).eq rfl
       have g10 := hG 10 40 rfl (Nat.le_of_ble_eq_true rfl)
       rw [v10] at g10
       go_wp2_with fail
       exact ⟨_, rfl, Below.refl _ _, VV.val rfl rfl, hZ.light (by decide) (by decide) (Below.refl _ _)⟩
     · intro ys done W aa hE hn hF hD hZ hG hO
       replace hE : Below wq.heap.size wq W := hE
       have hsz : wq.heap.size ≤ W.heap.size := hE.size
       have v10 := (hF 10 (by decide) (hD 10 (by kernel_rfl))).eq rfl
       have g10 := hG 10 40 rfl (Nat.le_of_ble_eq_true rfl)
       rw [v10] at g10
       go_wp2_with fail
       exact ⟨_, rfl, Below.refl _ _, VV.val rfl rfl, hZ.light (by decide) (by decide) (Below.refl _ _)⟩
     · intro ys done W aa hE hn hF hD hZ hG hO
       replace hE : Below wq.heap.size wq W := hE
       have hsz : wq.heap.size ≤ W.heap.size := hE.size
       have hfin := Lib.hid (hZ.new (z0 := .int .i64 0) (z1 := .int .i64 0) (z2 := .int .i64 0) hn (by decide) hsz)
       clear hZ
       go_wp2_with fail
       exact ⟨_, rfl, (Below.refl _ _).alloc hsz _, VV.any rfl, hfin.out⟩
     · intro ys done W aa hE hn hF hD hZ hG hO
       replace hE : Below wq.heap.size wq W := hE
       have hsz : wq.heap.size ≤ W.heap.size := hE.size
       have v11 := (hF 11 (by decide) (hD 11 (by kernel_rfl))).eq rfl
       have g11 := hG 11 51 rfl (Nat.le_of_ble_eq_true rfl)
       rw [v11] at g11
       obtain ⟨g, c0, c1, c2, e9, hgN, hA, -⟩ := hZ.p (hD 13 (by kernel_rfl))
       have ga := hG 13 9 rfl (Nat.le_of_ble_eq_true rfl)
       rw [e9] at ga
       unfold bptr at ga
       have hfin := Lib.hid (hZ.put (v := undef) (hD 13 (by kernel_rfl)) (by decide) e9 hgN hA)
       have hAf := hA.free
       have y0 := hA.cell 0
       have y1 := hA.cell 1
       have y2 := hA.cell 2
       simp at y0 y1 y2
       have hgi := hA.inside
       clear hA hZ
       go_wp2_with fail
       exact ⟨(((Below.refl _ _).setCell (show wq.heap.size ≤ (⟨g, 0, none⟩ : Addr).block from hgN) _).setCell (show wq.heap.size ≤ (⟨g, 1, none⟩ : Addr).block from hgN) _).setCell (show wq.heap.size ≤ (⟨g, 2, none⟩ : Addr).block from hgN) _, undef, VV.any rfl, hfin.out⟩
    case hQA =>
     intro ys w6 hE hF hZ
     replace hE : Below wq.heap.size wq w6 := hE
     have v12 := (hF 12 (by decide)).eq rfl
     obtain ⟨done, hdn, hZ⟩ := hZ
     obtain ⟨g6, e6, hg6, hA6⟩ := hZ.get (hdn 14 (by decide))
     unfold bptr at e6
     simp only [List.take_succ_cons, List.take_zero, List.drop_succ_cons, List.drop_zero, Sched.fill, e6, v12]
     clear hF hZ hdn e6 v12
     go_simp
     have y2 := hA6.cell 2
     simp at y2
     have hg6i := hA6.inside
     have hB6 := Lib.hid (hB1.out.trans (hE.mono hszr))
     clear hE q0' q1' q2' q3' q4' q5' pb1 hA6 hqi hpi
     obtain ⟨hI0, hN00, hE00⟩ := hIN.out
     have hI0' := Lib.hid hI0
     have hN0' := Lib.hid hN00
     have hE0' := Lib.hid hE00
     clear hI0 hN00 hE00
     cases hE0 : (E == 0)
     · have hx := Lib.hid (p_skip (acc_skip (f := bestF S r) (k := k) (by rw [hfk.out, if_neg (by simpa using hE0)])))
       go_wp2
       go_roundw
       case rel => exact ⟨k + 1, hkN.out, by go_num, by rw [hx.out.1, hI0'.out], by rw [hx.out.2.1, hN0'.out], by rw [hx.out.2.2, hE0'.out], hB6.out⟩
       case measure => simp [intOf]; omega
     obtain rfl : E = 0 := by simpa using hE0
     have hfs : Hid (bestF S r k = some B.n) := Lib.hid (by rw [hfk.out, if_pos rfl])
     by_cases hA0 : (accP (bestF S r) k).1 < 0
     · have hp0 := p_no hA0
       have hx := Lib.hid (p_take (acc_take hfs.out (.inl hA0)))
       obtain rfl : E0 = 12 := by rw [← hE0'.out]; exact hp0.2.2
       clear hp0 hA0
       go_upto_region 13 with fail
       go_quiet (fail)
       go_wp2
       exact ⟨⟨k + 1, hkN.out, by go_num, by rw [hx.out.1], by rw [hx.out.2.1], by rw [hx.out.2.2], Load.below_drewN hB6.out nq⟩, by simp [intOf]; omega⟩
     have hp0 := p_yes hA0
     obtain rfl : E0 = 0 := by rw [← hE0'.out]; exact hp0.2.2
     have hNA : Hid ((accP (bestF S r) k).2 = N0) := Lib.hid (by rw [← hN0'.out]; exact hp0.2.1.symm)
     have hA0' := Lib.hid hA0
     clear hp0 hA0
     by_cases hBn : B.n < N0
     · have hx := Lib.hid (p_take (acc_take hfs.out (.inr (by rw [hNA.out]; exact hBn))))
       go_upto_region 13 with fail
       go_quiet (fail)
       go_wp2
       exact ⟨⟨k + 1, hkN.out, by go_num, by rw [hx.out.1], by rw [hx.out.2.1], by rw [hx.out.2.2], Load.below_drewN hB6.out nq⟩, by simp [intOf]; omega⟩
     · have hx := Lib.hid (p_skip (acc_leave hfs.out (fun hc => by rw [hNA.out] at hc; have := hA0'.out; omega)))
       go_wp2
       go_roundw
       case rel => exact ⟨k + 1, hkN.out, by go_num, by rw [hx.out.1, hI0'.out], by rw [hx.out.2.1, hN0'.out], by rw [hx.out.2.2, hE0'.out], hB6.out⟩
       case measure => simp [intOf]; omega
  · obtain rfl : k = N := by omega
    have hIN := Lib.hid (And.intro hI0 (And.intro hN00 hE00))
    have hl := Lib.hid hN.out
    have hfin : Hid (I0 = priceI S r ∧ N0 = priceN S r ∧ E0 = priceE S r) := Lib.hid (by
     obtain ⟨e1, e2, e3⟩ := hIN.out
     rw [← e1, ← e2, ← e3, ← hN.out]
     by_cases hA0 : (accP (bestF S r) S.vs.length).1 < 0
     · have he := priceE_none hinT.out hwn.out hA0
       have hz := price_no (S := S) (r := r) (by rw [he]; omega)
       have hp0 := p_no hA0
       exact ⟨by rw [hp0.1, hz.1], by rw [hp0.2.1, hz.2], by rw [hp0.2.2, he]⟩
     · have he := priceE_ok hinT.out hwn.out hA0
       have hz := price_yes he
       have hp0 := p_yes hA0
       exact ⟨by rw [hp0.1, hz.1], by rw [hp0.2.1, hz.2], by rw [hp0.2.2, he]⟩)
    clear hA hI0 hN00 hE00 hIN
    go_wp2
    refine bodyPost_ret (v := .tuple #[.int .i64 I0, .int .i64 N0, .int .i64 E0]) (by simp [results, Tryz.results24, go_sem]) rfl ?_
    exact ⟨ret_price hfin.out.1 hfin.out.2.1 hfin.out.2.2, hbw⟩
end Go.Proofs.YteclpblfleakhaaGreatDoor.Plan
namespace Go.Proofs.YteclpblfleakhaaGreatDoor.Price
open Go.RowKit Go.Sort Go.Proofs.YteclpblfleakhaaGreatDoor.Mem Go.Proofs.YteclpblfleakhaaGreatDoor.Order Go.Proofs.YteclpblfleakhaaGreatDoor.Route Go.Proofs.YteclpblfleakhaaGreatDoor.When Go.Proofs.YteclpblfleakhaaGreatDoor.Load Go.Proofs.YteclpblfleakhaaGreatDoor.Feas Go.Proofs.YteclpblfleakhaaGreatDoor.Ins Go.Proofs.YteclpblfleakhaaGreatDoor.Cheap Go.Proofs.YteclpblfleakhaaGreatDoor.Plan
set_option linter.unusedVariables false
theorem best_pos {S : St} {r : Int} {y : Int × Wy} (h : leastQ (waysS S r) = some y) : 0 ≤ y.1 := by
 obtain ⟨i, _, _, e, _⟩ := waysS_mem (leastQ_mem h)
 rw [e]; omega
set_option maxRecDepth 100000 in
set_option maxHeartbeats 4000000 in
theorem Brute_any {vf vr vt : Value} (S : St) (r : Int) (w : World) (hsg : SgP' w) (hF : Vhs w.heap.size w vf S.vs) (hR : Rws w.heap.size w vr S.rows) (hT : Rqs w.heap.size w vt S.t) (hlen : ∀ l ∈ S.rows, l.length ≤ 100) (hnum : ∀ l ∈ S.rows, Nums l) (ht : S.t.length ≤ 1000) :
 Calls Tryz.prog 18 #[vf, vr, vt, .int .i64 r] w fun e w' => e = .returned (.int .u64 (bruteN S r)) ∧ Below w.heap.size w w' := by
 have hC := cheapest_any S r w hsg hF hR hT hlen hnum ht
 have hbd := brute_bd ht hnum r
 obtain ⟨xf, Nf, cf, rfl, -⟩ := Vhs.opened hF
 obtain ⟨xr, Nr, cr, rfl, -⟩ := Rws.opened hR
 obtain ⟨xt, Nt, ct, rfl, -⟩ := Rqs.opened hT
 obtain ⟨n, hn⟩ : ∃ n, bruteN S r = n := ⟨_, rfl⟩
 rw [hn] at hbd ⊢
 have hsg' := Lib.hid hsg
 have hn' := Lib.hid hn
 have hB := Lib.hid (fun y => best_pos (S := S) (r := r) (y := y))
 obtain ⟨L, hL⟩ : ∃ L, leastQ (waysS S r) = L := ⟨_, rfl⟩
 rw [hL] at hC hB
 have hL' := Lib.hid hL
 have hb1 := hbd.1
 have hb2 := hbd.2
 have hgi := hsg.pos
 have heq := eq_way4
 clear hF hR hT hlen hnum ht hsg hn hL hbd
 cases L with
 | none =>
  have hz : Hid (n = 4294967296) := Lib.hid (by rw [← hn'.out]; exact brute_no hL'.out)
  unfold bestB encQ at hC
  simp only at hC
  go_enter Tryz.func18, Tryz.ntmps18
  go_wp2_with fail
  refine hC.mono ?_
  clear hC
  rintro e w1 ⟨rfl, hb⟩
  obtain ⟨w2, hw2⟩ : ∃ w2, w1.alloc (.cells #[.int .i64 (-1), .int .i64 0, .int .i64 0, .int .i64 0] 90) = w2 := ⟨_, rfl⟩
  obtain ⟨q, hq⟩ : ∃ q, w1.heap.size = q := ⟨_, rfl⟩
  have hb2 : Below w1.heap.size w1 w2 := by rw [← hw2]; exact (Below.refl _ _).alloc (Nat.le_refl _) _
  have hBw := Lib.hid (hb.trans (hb2.mono hb.size))
  have hA : At w2 q 90 #[.int .i64 (-1), .int .i64 0, .int .i64 0, .int .i64 0] := by rw [← hw2]; exact At.new_ _ _ _ hq.symm
  obtain ⟨g0, g1, g2, g3⟩ := hsg'.out.on hBw.out
  have hgp := SgP'.pos ⟨g0, g1, g2, g3⟩
  have c0 := hA.cell 0
  have c1 := hA.cell 1
  have c2 := hA.cell 2
  have c3 := hA.cell 3
  simp at c0 c1 c2 c3
  have hqi := hA.inside
  have hw2' := Lib.hid hw2
  have hq' := Lib.hid hq
  clear hA hb hb2 hw2 hq
  go_upto_region 2 with fail
  try simp only [hq'.out]
  rw [hw2'.out]
  go_wp2
  go_ret
  exact ⟨ret_u64 hz.out.symm, hBw.out⟩
 | some y =>
  have hz : Hid (n = y.2.n) := Lib.hid (by rw [← hn'.out]; exact brute_yes hL'.out)
  have hp := hB.out _ rfl
  obtain ⟨y1, y2, y3, y4⟩ := y
  unfold bestB encQ at hC
  simp only at hC hz hp
  obtain rfl := hz.out
  go_enter Tryz.func18, Tryz.ntmps18
  go_wp2_with fail
  refine hC.mono ?_
  clear hC
  rintro e w1 ⟨rfl, hb⟩
  obtain ⟨w2, hw2⟩ : ∃ w2, w1.alloc (.cells #[.int .i64 y1, .int .i64 y2, .int .i64 y3, .int .i64 n] 90) = w2 := ⟨_, rfl⟩
  obtain ⟨q, hq⟩ : ∃ q, w1.heap.size = q := ⟨_, rfl⟩
  have hb2 : Below w1.heap.size w1 w2 := by rw [← hw2]; exact (Below.refl _ _).alloc (Nat.le_refl _) _
  have hBw := Lib.hid (hb.trans (hb2.mono hb.size))
  have hA : At w2 q 90 #[.int .i64 y1, .int .i64 y2, .int .i64 y3, .int .i64 n] := by rw [← hw2]; exact At.new_ _ _ _ hq.symm
  obtain ⟨g0, g1, g2, g3⟩ := hsg'.out.on hBw.out
  have hgp := SgP'.pos ⟨g0, g1, g2, g3⟩
  have c0 := hA.cell 0
  have c1 := hA.cell 1
  have c2 := hA.cell 2
  have c3 := hA.cell 3
  simp at c0 c1 c2 c3
  have hqi := hA.inside
  have hw2' := Lib.hid hw2
  have hq' := Lib.hid hq
  have hne : (decide (y1 = -1) && (decide (y2 = 0) && (decide (y3 = 0) && decide (n = 0)))) = false := by rw [show decide (y1 = -1) = false by simp; omega]; rfl
  clear hA hb hb2 hw2 hq
  go_upto_region 2 with fail
  try simp only [hq'.out]
  rw [hw2'.out]
  go_wp2
  go_ret
  exact ⟨rfl, hBw.out⟩
theorem ret_least4 {a b c a' b' c' : Int} {d d' : Bool} (h1 : a = a') (h2 : b = b') (h3 : c = c') (h4 : d = d') : Ending.returned (.tuple #[.int .i64 a, .int .i64 b, .int .i64 c, .bool d]) = .returned (.tuple #[.int .i64 a', .int .i64 b', .int .i64 c', .bool d']) := by rw [h1, h2, h3, h4]
theorem leastV_none {S : St} {r : Int} (h : leastQ (waysS S r) = none) : leastV S r = (0, ⟨0, 0, 0⟩) := by unfold leastV; rw [h]; rfl
theorem leastV_some {S : St} {r : Int} {y : Int × Wy} (h : leastQ (waysS S r) = some y) : leastV S r = y := by unfold leastV; rw [h]; rfl
set_option maxRecDepth 100000 in
set_option maxHeartbeats 4000000 in
theorem Least_any {vf vr vt : Value} (S : St) (r : Int) (w : World) (hsg : SgP' w) (hF : Vhs w.heap.size w vf S.vs) (hR : Rws w.heap.size w vr S.rows) (hT : Rqs w.heap.size w vt S.t) (hlen : ∀ l ∈ S.rows, l.length ≤ 100) (hnum : ∀ l ∈ S.rows, Nums l) (ht : S.t.length ≤ 1000) :
 Calls Tryz.prog 16 #[vf, vr, vt, .int .i64 r] w fun e w' => e = .returned (.tuple #[.int .i64 (leastV S r).1, .int .i64 (leastV S r).2.i, .int .i64 (leastV S r).2.j, .bool (leastQ (waysS S r)).isSome]) ∧ Below w.heap.size w w' := by
 have hC := cheapest_any S r w hsg hF hR hT hlen hnum ht
 obtain ⟨xf, Nf, cf, rfl, -⟩ := Vhs.opened hF
 obtain ⟨xr, Nr, cr, rfl, -⟩ := Rws.opened hR
 obtain ⟨xt, Nt, ct, rfl, -⟩ := Rqs.opened hT
 have hsg' := Lib.hid hsg
 have hB := Lib.hid (fun y => best_pos (S := S) (r := r) (y := y))
 have h0 := Lib.hid (leastV_none (S := S) (r := r))
 have h1 := Lib.hid (fun y => leastV_some (S := S) (r := r) (y := y))
 obtain ⟨L, hL⟩ : ∃ L, leastQ (waysS S r) = L := ⟨_, rfl⟩
 rw [hL] at hC hB h0 h1 ⊢
 have hgi := hsg.pos
 have heq := eq_way4
 clear hF hR hT hlen hnum ht hsg hL
 cases L with
 | none =>
  have hz := Lib.hid (h0.out rfl)
  unfold bestB encQ at hC
  simp only at hC
  go_enter Tryz.func16, Tryz.ntmps16
  go_wp2_with fail
  refine hC.mono ?_
  clear hC
  rintro e w1 ⟨rfl, hb⟩
  obtain ⟨w2, hw2⟩ : ∃ w2, w1.alloc (.cells #[.int .i64 (-1), .int .i64 0, .int .i64 0, .int .i64 0] 90) = w2 := ⟨_, rfl⟩
  obtain ⟨q, hq⟩ : ∃ q, w1.heap.size = q := ⟨_, rfl⟩
  have hb2 : Below w1.heap.size w1 w2 := by rw [← hw2]; exact (Below.refl _ _).alloc (Nat.le_refl _) _
  have hBw := Lib.hid (hb.trans (hb2.mono hb.size))
  have hA : At w2 q 90 #[.int .i64 (-1), .int .i64 0, .int .i64 0, .int .i64 0] := by rw [← hw2]; exact At.new_ _ _ _ hq.symm
  obtain ⟨g0, g1, g2, g3⟩ := hsg'.out.on hBw.out
  have hgp := SgP'.pos ⟨g0, g1, g2, g3⟩
  have c0 := hA.cell 0
  have c1 := hA.cell 1
  have c2 := hA.cell 2
  have c3 := hA.cell 3
  simp at c0 c1 c2 c3
  have hqi := hA.inside
  have hw2' := Lib.hid hw2
  have hq' := Lib.hid hq
  clear hA hb hb2 hw2 hq
  go_upto_region 2 with fail
  try simp only [hq'.out]
  rw [hw2'.out]
  go_wp2
  refine bodyPost_ret (v := .tuple #[.int .i64 0, .int .i64 0, .int .i64 0, .bool false]) (by simp [results, Tryz.results16, go_sem]) rfl ?_
  exact ⟨ret_least4 (by rw [hz.out]) (by rw [hz.out]) (by rw [hz.out]) rfl, hBw.out⟩
 | some y =>
  have hz := Lib.hid (h1.out y rfl)
  have hp := hB.out _ rfl
  obtain ⟨y1, y2, y3, y4⟩ := y
  unfold bestB encQ at hC
  simp only at hC hp
  go_enter Tryz.func16, Tryz.ntmps16
  go_wp2_with fail
  refine hC.mono ?_
  clear hC
  rintro e w1 ⟨rfl, hb⟩
  obtain ⟨w2, hw2⟩ : ∃ w2, w1.alloc (.cells #[.int .i64 y1, .int .i64 y2, .int .i64 y3, .int .i64 y4] 90) = w2 := ⟨_, rfl⟩
  obtain ⟨q, hq⟩ : ∃ q, w1.heap.size = q := ⟨_, rfl⟩
  have hb2 : Below w1.heap.size w1 w2 := by rw [← hw2]; exact (Below.refl _ _).alloc (Nat.le_refl _) _
  have hBw := Lib.hid (hb.trans (hb2.mono hb.size))
  have hA : At w2 q 90 #[.int .i64 y1, .int .i64 y2, .int .i64 y3, .int .i64 y4] := by rw [← hw2]; exact At.new_ _ _ _ hq.symm
  obtain ⟨g0, g1, g2, g3⟩ := hsg'.out.on hBw.out
  have hgp := SgP'.pos ⟨g0, g1, g2, g3⟩
  have c0 := hA.cell 0
  have c1 := hA.cell 1
  have c2 := hA.cell 2
  have c3 := hA.cell 3
  simp at c0 c1 c2 c3
  have hqi := hA.inside
  have hw2' := Lib.hid hw2
  have hq' := Lib.hid hq
  have hne : (decide (y1 = -1) && (decide (y2 = 0) && (decide (y3 = 0) && decide (y4 = 0)))) = false := by rw [show decide (y1 = -1) = false by simp; omega]; rfl
  clear hA hb hb2 hw2 hq
  go_upto_region 2 with fail
  try simp only [hq'.out]
  rw [hw2'.out]
  go_upto_region 4 with fail
  have k0 := cell_regrown c0
  have k1 := cell_regrown c1
  have k2 := cell_regrown c2
  refine wp_region_quiet_below (by kernel_rfl) (by kernel_rfl) ?_
  repeat (go_big_quiet_step (fail))
  refine wpQuiet_nil ?_
  intro _ hw'
  obtain ⟨⟨dq, osq⟩, hw''⟩ := hw'
  subst hw''
  have hB9 := Lib.hid (hBw.out.trans ((below_regrown w2 dq osq).mono hBw.out.size))
  clear k0 k1 k2 c0 c1 c2 c3
  go_wp2
  refine bodyPost_ret (v := .tuple #[.int .i64 y1, .int .i64 y2, .int .i64 y3, .bool true]) (by simp [results, Tryz.results16, go_sem]) rfl ?_
  exact ⟨ret_least4 (by rw [hz.out]) (by rw [hz.out]) (by rw [hz.out]) rfl, hB9.out⟩
set_option maxRecDepth 100000 in
set_option maxHeartbeats 2000000 in
theorem Bid_any {D G : Nat → Prop} {p : Nat} {S : St} (r : Int) (w : World) (h : PlanAt D G w p S) (ho : Ok S) (hsg : Sg w) :
 Calls Tryz.prog 11 #[.pointer (some ⟨p, 0, none⟩), .int .i64 r] w fun e w' => e = .returned (.int .u64 (bruteN S r)) ∧ Below w.heap.size w w' := by
 have hP := Price_any r w h ho hsg
 have hbd := brute_bd ho.tl (fun l hl => by
  obtain ⟨i, hi, rfl⟩ := List.getElem_of_mem hl
  exact (ho.dr i _ _ (List.getElem?_eq_getElem (by rw [← ho.len]; exact hi)) (List.getElem?_eq_getElem hi)).2.2.2) r
 rw [brute_price ho] at hbd ⊢
 obtain ⟨I, hI⟩ : ∃ I, priceI S r = I := ⟨_, rfl⟩
 obtain ⟨N, hN⟩ : ∃ N, priceN S r = N := ⟨_, rfl⟩
 obtain ⟨E, hE⟩ : ∃ E, priceE S r = E := ⟨_, rfl⟩
 rw [hI, hN, hE] at hP
 rw [hN, hE] at hbd ⊢
 obtain ⟨R, hR⟩ : ∃ R, (if E = 0 then N else 4294967296) = R := ⟨_, rfl⟩
 rw [hR] at hbd ⊢
 have hR' := Lib.hid hR
 clear hI hN hE ho hsg h hR
 by_cases h0 : E = 0
 · subst h0
   obtain rfl : N = R := by have := hR'.out; rwa [if_pos rfl] at this
   obtain ⟨hb1, hb2⟩ := hbd
   go_enter Tryz.func11, Tryz.ntmps11
   go_wp2_with fail
   refine hP.mono ?_
   clear hP
   rintro e w1 ⟨rfl, hb⟩
   have hb' := Lib.hid hb
   clear hb
   go_wp2
   go_ret
   exact ⟨rfl, hb'.out⟩
 · have hr : Hid (4294967296 = R) := Lib.hid (by have := hR'.out; rwa [if_neg h0] at this)
   have h1 : (E != 0) = true := by simpa using h0
   have h2 : (E == 0) = false := by simpa using h0
   clear h0 hbd
   go_enter Tryz.func11, Tryz.ntmps11
   go_wp2_with fail
   refine hP.mono ?_
   clear hP
   rintro e w1 ⟨rfl, hb⟩
   have hb' := Lib.hid hb
   clear hb
   go_wp2
   go_ret
   exact ⟨ret_u64 hr.out, hb'.out⟩
end Go.Proofs.YteclpblfleakhaaGreatDoor.Price

import Derived.Test.YteclpblfleakhaaGreatDoorPkPlanPCopy
import Derived.Test.YteclpblfleakhaaGreatDoorPkPriceParts

namespace Go.Proofs.YteclpblfleakhaaGreatDoor.Plan
open Go.RowKit Go.Sort Go.Proofs.YteclpblfleakhaaGreatDoor.Mem Go.Proofs.YteclpblfleakhaaGreatDoor.Route Go.Proofs.YteclpblfleakhaaGreatDoor.When Go.Proofs.YteclpblfleakhaaGreatDoor.Load Go.Proofs.YteclpblfleakhaaGreatDoor.Feas Go.Proofs.YteclpblfleakhaaGreatDoor.Order
set_option linter.unusedVariables false
def nilT (vs : List Vh) (k : Nat) : List Value := toursF (vs.take k) (List.replicate k (.slice none 0 0))
theorem nilT_zero (vs : List Vh) : nilT vs 0 = [] := by simp [nilT, toursF]
theorem nilT_next {vs : List Vh} {k : Nat} {v : Vh} (h : vs[k]? = some v) : nilT vs (k + 1) = nilT vs k ++ tourV v (.slice none 0 0) := by
 have hk := (List.getElem?_eq_some_iff.1 h).1
 unfold nilT
 rw [List.take_add_one, h, List.replicate_succ', Option.toList_some]
 exact toursF_snoc v _ (by simp; omega)
theorem nilT_all (vs : List Vh) : nilT vs vs.length = toursF vs (List.replicate vs.length (.slice none 0 0)) := by unfold nilT; rw [List.take_length]
structure FreshAt (M : Nat) (W : World) (p gm : Nat) (vu vt : Value) (k : Nat) (vs : List Vh) (t : List Rq) : Prop where
 box : At W p 78 #[vu, vt, .map (some gm)]
 pM : M ≤ p
 ot : W.ownsRow M 43 10 vt t.length (flatQ t)
 own : W.ownsRow M 74 6 vu k (nilT vs k)
 map : MapAt W gm 0 (fun _ => none)
 mM : M ≤ gm
theorem FreshAt.on {M : Nat} {W W' : World} {p gm : Nat} {vu vt : Value} {k : Nat} {vs : List Vh} {t : List Rq} (h : FreshAt M W p gm vu vt k vs t) (hb : Below W.heap.size W W') : FreshAt M W' p gm vu vt k vs t :=
 ⟨h.box.keep hb h.box.inside, h.pM, owns_below h.ot hb, owns_below h.own hb, h.map.same (hb.block gm h.map.inside), h.mM⟩
theorem newS_rows {vs : List Vh} {t : List Rq} {i : Nat} {l : List (Int × Int)} (h : (newS vs t).rows[i]? = some l) : l = [] := by
 have := List.mem_of_getElem? h
 simp only [newS, List.mem_map] at this
 obtain ⟨_, _, e⟩ := this
 exact e.symm
theorem whO_new (vs : List Vh) (t : List Rq) (q : Int) : whO (newS vs t) q = none := by
 refine whO_none ?_
 have : whereV (newS vs t).rows q < 0 := where_neg.2 (fun l hl => by
  obtain ⟨i, hi, e⟩ := List.getElem_of_mem hl
  have hl0 : l = [] := newS_rows (vs := vs) (t := t) (i := i) (by rw [← e]; exact List.getElem?_eq_getElem hi)
  rw [hl0]
  rfl)
 omega
theorem FreshAt.done {M : Nat} {W : World} {p gm gt cap : Nat} {vt : Value} {vs : List Vh} {t : List Rq} (h : FreshAt M W p gm (.slice (some ⟨gt, 0, none⟩) vs.length cap) vt vs.length vs t) {D : Nat → Prop} (hD : ∀ k, D k → k = gt ∨ k = gm ∨ k < M) (hT : D gt) (hMm : D gm) :
 ProgAt D (fun k => k = gt ∨ k = gm) W p gt gm vt cap (List.replicate vs.length (.slice none 0 0)) (newS vs t) :=
 ProgAt.made (n := 0) (show At W p 78 #[.slice (some ⟨gt, 0, none⟩) (newS vs t).vs.length cap, vt, .map (some gm)] from h.box) h.pM h.ot (by have := h.own; rw [nilT_all] at this; exact this) (by simp [newS]) (fun i u l hu hl => by
  obtain rfl := newS_rows (vs := vs) (t := t) hl
  rw [(List.mem_replicate.1 (List.mem_of_getElem? hu)).2]
  exact World.ownsRow_nil _ _ _ _) (h.map.funs (fun q => whO_new vs t q)) h.mM (by omega) hD hT hMm
set_option maxRecDepth 100000 in
set_option maxHeartbeats 8000000 in
theorem New_any (vf vt : Value) (vs : List Vh) (t : List Rq) (w : World) (hV : Vhs w.heap.size w vf vs) (hT : Rqs w.heap.size w vt t) (hpv : Plain vf) (hpt : Plain vt) (hvl : vs.length ≤ 1000000) (htl : t.length ≤ 1000000) :
 Calls Tryz.prog 19 #[vf, vt] w fun e w' =>
  (newE vs t ≠ 0 → e = .returned (.tuple #[.pointer none, .int .i64 (newE vs t)])) ∧ (newE vs t = 0 → ∃ p, e = .returned (.tuple #[.pointer (some ⟨p, 0, none⟩), .int .i64 0]) ∧ ∃ G : Nat → Prop, (∀ k, G k → w.heap.size ≤ k ∧ k < w'.heap.size) ∧ ∀ D : Nat → Prop, (∀ k, G k → D k) → (∀ k, D k → G k ∨ k < w.heap.size) → PlanAt D G w' p (newS vs t)) ∧ Below w.heap.size w w' := by
 obtain ⟨it, hit, ht0, ht1, ht2⟩ := info_parts info_tour
 obtain ⟨xt, Nt, ct, rfl, hNt0, htc1, htc2, -⟩ := hT.opened
 obtain ⟨xf, Nf, cf, rfl, hNf0, hfc1, hfc2, -⟩ := hV.opened
 unfold maxLen at htc2 hfc2
 have hCl := CloneQ_any _ t htl w hT hpt
 rw [hNf0] at hvl
 rw [hNt0] at htl
 have hV' := Lib.hid hV
 have hT' := Lib.hid hT
 have hNf := Lib.hid hNf0
 have hNt := Lib.hid hNt0
 clear hV hT hNf0 hNt0 hpv hpt
 by_cases h1 : Nf < 1
 · have he := Lib.hid (newE_count (vs := vs) (t := t) (.inl (by rw [hNf.out]; exact h1)))
   have h1i : (Nf : Int) < 1 := by omega
   clear hCl
   go_enter Tryz.func19, Tryz.ntmps19
   go_wp2
   refine bodyPost_ret (v := .tuple #[.pointer none, .int .i64 11]) (by simp [results, Tryz.results19, go_sem]) rfl ?_
   exact ⟨(new_no he.out (by omega) (A := True)).1, fun h => absurd (he.out.symm.trans h) (by omega), Below.refl _ _⟩
 by_cases h2 : 4 < Nf
 · have he := Lib.hid (newE_count (vs := vs) (t := t) (.inr (by rw [hNf.out]; exact h2)))
   have h1i : ¬ (Nf : Int) < 1 := by omega
   have h2i : (4 : Int) < (Nf : Int) := by omega
   clear hCl
   go_enter Tryz.func19, Tryz.ntmps19
   go_wp2
   refine bodyPost_ret (v := .tuple #[.pointer none, .int .i64 11]) (by simp [results, Tryz.results19, go_sem]) rfl ?_
   exact ⟨(new_no he.out (by omega) (A := True)).1, fun h => absurd (he.out.symm.trans h) (by omega), Below.refl _ _⟩
 have h1i : ¬ (Nf : Int) < 1 := by omega
 have h2i : ¬ (4 : Int) < (Nf : Int) := by omega
 have hcnt : Hid (¬ (vs.length < 1 ∨ 4 < vs.length)) := Lib.hid (by rw [hNf.out]; omega)
 have hN1 : 1 ≤ Nf := by omega
 have hN4 : Nf ≤ 4 := by omega
 obtain ⟨M, hM⟩ : ∃ M, w.heap.size = M := ⟨_, rfl⟩
 have hmm := @run_makeMap Tryz.prog
 rw [hM] at hCl ⊢
 have hM' := Lib.hid hM
 clear hM
 go_enter Tryz.func19, Tryz.ntmps19
 go_wp2_with fail
 refine hCl.mono ?_
 clear hCl
 rintro e w1 ⟨⟨vt9, rfl, hot⟩, hb1⟩
 obtain ⟨xq, cq, rfl, -, -⟩ := owns_slice hot
 have hot' := Lib.hid hot
 have hb1' := Lib.hid hb1
 have hM1 : M ≤ w1.heap.size := by have h1 := hb1.size; have h2 := hM'.out; omega
 clear hot hb1
 go_upto_region 4 with fail
 obtain ⟨gm, hgm⟩ : ∃ gm, w1.heap.size = gm := ⟨_, rfl⟩
 obtain ⟨w2, hw2⟩ : ∃ w2, w1.alloc (.map #[] 0) = w2 := ⟨_, rfl⟩
 have hmp2 : MapAt w2 gm 0 (fun _ => none) := by rw [← hw2, ← hgm]; exact MapAt.made w1
 have hb2 : Below M w1 w2 := by rw [← hw2]; exact (Below.refl _ _).alloc hM1 _
 have hot2 : w2.ownsRow M 43 10 (.slice xq t.length cq) t.length (flatQ t) := by rw [← hw2]; exact hot'.out.alloc _
 have hs2 : w2.heap.size = gm + 1 := by rw [← hw2, ← hgm]; simp
 obtain ⟨p, hp⟩ : ∃ p, gm + 1 = p := ⟨_, rfl⟩
 obtain ⟨w3, hw3⟩ : ∃ w3, w2.alloc (.cells #[.slice none 0 0, .slice xq t.length cq, .map (some gm)] 78) = w3 := ⟨_, rfl⟩
 have hF3 : Hid (FreshAt M w3 p gm (.slice none 0 0) (.slice xq t.length cq) 0 vs t) := Lib.hid (by
  rw [← hw3]
  exact ⟨At.new_ _ _ _ (by omega), by omega, hot2.alloc _, by rw [nilT_zero]; exact World.ownsRow_nil _ _ _ _, hmp2.alloc _, by omega⟩)
 have hB3 : Hid (Below M w w3) := Lib.hid (by rw [← hw3]; exact (hb1'.out.trans hb2).alloc (by omega) _)
 have hfin3 := Lib.hid (And.intro hgm (And.intro hw2 (And.intro hs2 (And.intro hp hw3))))
 clear hmp2 hb2 hot2 hgm hw2 hs2 hp hw3
 simp only [hfin3.out.1]
 rw [hfin3.out.2.1]
 try simp only [hfin3.out.2.2.2.1]
 rw [hfin3.out.2.2.2.2]
 clear hot' hb1'
 go_wp2
 go_loopw [26] (fun c wr => ∃ (k : Nat) (vu : Value), k ≤ Nf ∧ c = .int .i64 k ∧ Hid (∀ (j : Nat) v, j < k → vs[j]? = some v → v.chk = 0) ∧ FreshAt M wr p gm vu (.slice xq t.length cq) k vs t ∧ Below M w wr)
  (fun c _ => Nf - (intOf c).toNat)
 case atStart => exact ⟨0, _, Nat.zero_le _, rfl, Lib.hid (fun j v h => by omega), hF3.out, hB3.out⟩
 case round =>
  obtain ⟨k, vu, hk, rfl, hall, hF, hbw⟩ := hrel
  have hMr : M ≤ wr.heap.size := by have h1 := hbw.size; have h2 := hM'.out; omega
  clear hF3 hB3
  by_cases hlt : k < Nf
  · obtain ⟨v, hv⟩ : ∃ v, vs[k]? = some v := ⟨vs[k]'(by rw [hNf.out]; exact hlt), List.getElem?_eq_getElem _⟩
    obtain ⟨gv, ov, rfl, hgv, q0, q1, q2, q3, q4⟩ := Vhs.at (hV'.out.keep (by rw [hM'.out]; exact hbw) (Nat.le_refl _)) hv
    have hnx := Lib.hid (nilT_next hv)
    obtain ⟨wq, hwq⟩ : ∃ wq, wr.alloc (.cells #[.int .i64 v.hx, .int .i64 v.hy, .int .i64 v.cp, .int .i64 v.st, .int .i64 v.en] 32) = wq := ⟨_, rfl⟩
    obtain ⟨q, hq⟩ : ∃ q, wr.heap.size = q := ⟨_, rfl⟩
    have hA1 : At wq q 32 #[.int .i64 v.hx, .int .i64 v.hy, .int .i64 v.cp, .int .i64 v.st, .int .i64 v.en] := by rw [← hwq]; exact At.new_ _ _ _ hq.symm
    have hb1 : Below wr.heap.size wr wq := by rw [← hwq]; exact (Below.refl _ _).alloc (Nat.le_refl _) _
    have hF1 := Lib.hid (hF.on hb1)
    have hB1 := Lib.hid (hbw.trans (hb1.mono hMr))
    have hMq : M ≤ wq.heap.size := Nat.le_trans hMr hb1.size
    have hc := Order.Vehicle_any v.hx v.hy v.cp v.st v.en wq
    obtain ⟨C, hC⟩ : ∃ C, veh v.hx v.hy v.cp v.st v.en = C := ⟨_, rfl⟩
    rw [hC] at hc
    have hCv := Lib.hid (show v.chk = C from hC)
    have hv' := Lib.hid hv
    have hkI : (k : Int) < (Nf : Int) := by omega
    have hkN := Lib.hid hlt
    have c0 := hA1.cell 0
    have c1 := hA1.cell 1
    have c2 := hA1.cell 2
    have c3 := hA1.cell 3
    have c4 := hA1.cell 4
    simp at c0 c1 c2 c3 c4
    have hqi := hA1.inside
    have hA1' := Lib.hid hA1
    have hwq' := Lib.hid hwq
    have hq' := Lib.hid hq
    clear hC hv hbw hF hA1 hwq hq hb1
    go_upto_region 7 with fail
    try simp only [hq'.out]
    rw [hwq'.out]
    clear q0 q1 q2 q3 q4
    go_wp2_with fail
    refine hc.mono ?_
    clear hc c0 c1 c2 c3 c4
    rintro e w2 ⟨rfl, hb2⟩
    have hB2 := Lib.hid (hB1.out.trans (hb2.mono hMq))
    have hF2 := Lib.hid (hF1.out.on hb2)
    have hA2 := Lib.hid (hA1'.out.keep hb2 hqi)
    have hM2 : M ≤ w2.heap.size := Nat.le_trans hMq hb2.size
    clear hb2 hF1 hA1' hB1
    cases hC0 : (C == 0)
    · have hC1 : (C != 0) = true := by simpa using hC0
      have he := Lib.hid (newE_veh (t := t) hcnt.out (List.mem_of_getElem? hv'.out) (by rw [hCv.out]; simpa using hC0))
      go_wp2
      refine bodyPost_ret (v := .tuple #[.pointer none, .int .i64 2]) (by simp [results, Tryz.results19, go_sem]) rfl ?_
      exact ⟨(new_no he.out (by omega) (A := True)).1, fun h => absurd (he.out.symm.trans h) (by omega), hB2.out⟩
    · have hC1 : (C != 0) = false := by simpa using hC0
      have hal2 : Hid (∀ (j : Nat) v, j < k + 1 → vs[j]? = some v → v.chk = 0) := Lib.hid (fun j v2 hj hv2 => by
       by_cases hjk : j = k
       · subst hjk
         obtain rfl : v = v2 := Option.some.inj (hv'.out.symm.trans hv2)
         rw [hCv.out]; simpa using hC0
       · exact hall.out j v2 (by omega) hv2)
      obtain ⟨xu, cu, rfl, -, -⟩ := owns_slice hF2.out.own
      have hxo := Lib.hid (World.ownsRow.lt hF2.out.own)
      have hpg : Hid (¬ Value.ownBlock (.slice xu k cu) = some p) := Lib.hid (fun e => own_at_ne hF2.out.box hF2.out.own (by decide) e)
      have hqg : Hid (¬ Value.ownBlock (.slice xu k cu) = some q) := Lib.hid (fun e => own_at_ne hA2.out hF2.out.own (by decide) e)
      have hpi := hF2.out.box.inside
      have hq2 := hA2.out.inside
      have z0 := hF2.out.box.cell 0
      have c0 := hA2.out.cell 0
      have c1 := hA2.out.cell 1
      have c2 := hA2.out.cell 2
      have c3 := hA2.out.cell 3
      have c4 := hA2.out.cell 4
      simp at z0 c0 c1 c2 c3 c4
      go_upto_region 9 with fail
      refine Sched.wp_region_sched 11 (fun W W' => Chg (fun j => Value.ownBlock (.slice xu k cu) = some j) W W') (VC (G := fun j => Value.ownBlock (.slice xu k cu) = some j) [.val (.pointer (some ⟨p, 0, none⟩)), .val (.pointer (some ⟨p, 0, none⟩)), .val (.pointer (some ⟨p, 0, none⟩)), .val (.pointer (some ⟨p, 0, none⟩)), .val (.slice xu k cu), .val (.agg #[.int .i64 v.hx, .int .i64 v.hy, .int .i64 v.cp, .int .i64 v.st, .int .i64 v.en]), .val (.agg #[.int .i64 v.hx, .int .i64 v.hy, .int .i64 v.cp, .int .i64 v.st, .int .i64 v.en, .slice none 0 0]), .of (fun x W => ∃ g, x = .slice (some ⟨g, 0, none⟩) 1 1 ∧ w2.heap.size ≤ g ∧ At W g 74 #[.int .i64 v.hx, .int .i64 v.hy, .int .i64 v.cp, .int .i64 v.st, .int .i64 v.en, .slice none 0 0]) (fun ⟨g, e, h1, h2⟩ hc => ⟨g, e, h1, hc.at_ h2 (fun hg => by have := (hxo.out g hg).2; omega)⟩), .any, .val (.pointer (some ⟨p, 0, none⟩)), .val (.pointer (some ⟨p, 0, none⟩))]) (ZS 8 (fun W => W.ownsRow M 74 6 (.slice xu k cu) k (nilT vs k)) (fun x W => (∃ y c, x = .slice y (k + 1) c) ∧ W.ownsRow M 74 6 x (k + 1) (nilT vs (k + 1)))) (by kernel_rfl) (by kernel_rfl) (by kernel_rfl) (fun h1 h2 => h1.trans h2) (fun h1 h2 => VC.keep h1 h2) (Chg.of_below (Below.refl _ _).drew) (fun ys => ZS.start ys (owns_below hF2.out.own (Below.refl _ _).drew)) (Sched.StepsA.steps (by kernel_rfl) ?hSA) ?hQA
      case hSA =>
       simp only [List.take_succ_cons, List.take_zero]
       refine ⟨?_, ?_, ?_, ?_, ?_, ?_, ?_, ?_, ?_, ?_, ?_, trivial⟩
       · intro ys done W aa hE hn hF hD hZ hG hO
         replace hE : Chg (fun j => Value.ownBlock (.slice xu k cu) = some j) w2 W := hE
         have o6 := hO 6 (by kernel_rfl)
         replace o6 : aa.tmps[6]? = some (.pointer (some ⟨p, 0, none⟩)) := o6
         replace hZ := Lib.hid hZ
         go_wp2_with fail
         exact ⟨_, rfl, Chg.refl _ _, VC.val rfl rfl, hZ.out.light (by decide) (fun h => owns_below h (Below.refl _ _)) (fun x h => ⟨h.1, owns_below h.2 (Below.refl _ _)⟩)⟩
       · intro ys done W aa hE hn hF hD hZ hG hO
         replace hE : Chg (fun j => Value.ownBlock (.slice xu k cu) = some j) w2 W := hE
         have o6 := hO 6 (by kernel_rfl)
         replace o6 : aa.tmps[6]? = some (.pointer (some ⟨p, 0, none⟩)) := o6
         replace hZ := Lib.hid hZ
         go_wp2_with fail
         exact ⟨_, rfl, Chg.refl _ _, VC.val rfl rfl, hZ.out.light (by decide) (fun h => owns_below h (Below.refl _ _)) (fun x h => ⟨h.1, owns_below h.2 (Below.refl _ _)⟩)⟩
       · intro ys done W aa hE hn hF hD hZ hG hO
         replace hE : Chg (fun j => Value.ownBlock (.slice xu k cu) = some j) w2 W := hE
         have v1 := (hF 1 (by decide) (hD 1 (by kernel_rfl))).eq rfl
         have g1 := hG 1 34 rfl (Nat.le_of_ble_eq_true rfl)
         rw [v1] at g1
         have z7 : p < W.heap.size := Nat.lt_of_lt_of_le hpi hE.size
         replace hZ := Lib.hid hZ
         go_wp2_with fail
         exact ⟨_, rfl, Chg.refl _ _, VC.val rfl rfl, hZ.out.light (by decide) (fun h => owns_below h (Below.refl _ _)) (fun x h => ⟨h.1, owns_below h.2 (Below.refl _ _)⟩)⟩
       · intro ys done W aa hE hn hF hD hZ hG hO
         replace hE : Chg (fun j => Value.ownBlock (.slice xu k cu) = some j) w2 W := hE
         have v2 := (hF 2 (by decide) (hD 2 (by kernel_rfl))).eq rfl
         have g2 := hG 2 35 rfl (Nat.le_of_ble_eq_true rfl)
         rw [v2] at g2
         have z7 : p < W.heap.size := Nat.lt_of_lt_of_le hpi hE.size
         replace hZ := Lib.hid hZ
         go_wp2_with fail
         exact ⟨_, rfl, Chg.refl _ _, VC.val rfl rfl, hZ.out.light (by decide) (fun h => owns_below h (Below.refl _ _)) (fun x h => ⟨h.1, owns_below h.2 (Below.refl _ _)⟩)⟩
       · intro ys done W aa hE hn hF hD hZ hG hO
         replace hE : Chg (fun j => Value.ownBlock (.slice xu k cu) = some j) w2 W := hE
         have v3 := (hF 3 (by decide) (hD 3 (by kernel_rfl))).eq rfl
         have g3 := hG 3 36 rfl (Nat.le_of_ble_eq_true rfl)
         rw [v3] at g3
         have z7 : p < W.heap.size := Nat.lt_of_lt_of_le hpi hE.size
         have z6 := (World.cell?_of_block (a := ⟨p, 0, none⟩) (hE.block p hpi hpg.out)).trans z0
         replace hZ := Lib.hid hZ
         go_wp2_with fail
         exact ⟨_, rfl, Chg.refl _ _, VC.val rfl rfl, hZ.out.light (by decide) (fun h => owns_below h (Below.refl _ _)) (fun x h => ⟨h.1, owns_below h.2 (Below.refl _ _)⟩)⟩
       · intro ys done W aa hE hn hF hD hZ hG hO
         replace hE : Chg (fun j => Value.ownBlock (.slice xu k cu) = some j) w2 W := hE
         have o8 := hO 8 (by kernel_rfl)
         replace o8 : aa.tmps[8]? = some (.pointer (some ⟨q, 0, none⟩)) := o8
         have z7 : q < W.heap.size := Nat.lt_of_lt_of_le hq2 hE.size
         have y0 := (World.cell?_of_block (a := ⟨q, 0, none⟩) (hE.block q hq2 hqg.out)).trans c0
         have y1 := (World.cell?_of_block (a := ⟨q, 1, none⟩) (hE.block q hq2 hqg.out)).trans c1
         have y2 := (World.cell?_of_block (a := ⟨q, 2, none⟩) (hE.block q hq2 hqg.out)).trans c2
         have y3 := (World.cell?_of_block (a := ⟨q, 3, none⟩) (hE.block q hq2 hqg.out)).trans c3
         have y4 := (World.cell?_of_block (a := ⟨q, 4, none⟩) (hE.block q hq2 hqg.out)).trans c4
         replace hZ := Lib.hid hZ
         go_wp2_with fail
         exact ⟨_, rfl, Chg.refl _ _, VC.val rfl rfl, hZ.out.light (by decide) (fun h => owns_below h (Below.refl _ _)) (fun x h => ⟨h.1, owns_below h.2 (Below.refl _ _)⟩)⟩
       · intro ys done W aa hE hn hF hD hZ hG hO
         replace hE : Chg (fun j => Value.ownBlock (.slice xu k cu) = some j) w2 W := hE
         have v5 := (hF 5 (by decide) (hD 5 (by kernel_rfl))).eq rfl
         have g5 := hG 5 38 rfl (Nat.le_of_ble_eq_true rfl)
         rw [v5] at g5
         replace hZ := Lib.hid hZ
         go_wp2_with fail
         exact ⟨_, rfl, Chg.refl _ _, VC.val rfl rfl, hZ.out.light (by decide) (fun h => owns_below h (Below.refl _ _)) (fun x h => ⟨h.1, owns_below h.2 (Below.refl _ _)⟩)⟩
       · intro ys done W aa hE hn hF hD hZ hG hO
         replace hE : Chg (fun j => Value.ownBlock (.slice xu k cu) = some j) w2 W := hE
         have v6 := (hF 6 (by decide) (hD 6 (by kernel_rfl))).eq rfl
         have g6 := hG 6 39 rfl (Nat.le_of_ble_eq_true rfl)
         rw [v6] at g6
         have hsW := hE.size
         replace hZ := Lib.hid hZ
         go_wp2_with fail
         exact ⟨_, rfl, Chg.of_below ((Below.refl _ _).alloc (Nat.le_refl _) _), VC.of rfl ⟨_, rfl, hsW, At.new _ _ _⟩, hZ.out.light (by decide) (fun h => owns_below h ((Below.refl _ _).alloc (Nat.le_refl _) _)) (fun x h => ⟨h.1, owns_below h.2 ((Below.refl _ _).alloc (Nat.le_refl _) _)⟩)⟩
       · intro ys done W aa hE hn hF hD hZ hG hO
         replace hE : Chg (fun j => Value.ownBlock (.slice xu k cu) = some j) w2 W := hE
         have v4 := (hF 4 (by decide) (hD 4 (by kernel_rfl))).eq rfl
         have g4 := hG 4 37 rfl (Nat.le_of_ble_eq_true rfl)
         rw [v4] at g4
         have v7 := (hF 7 (by decide) (hD 7 (by kernel_rfl))).get rfl
         have g7 := hG 7 40 rfl (Nat.le_of_ble_eq_true rfl)
         obtain ⟨gb, e7, hgb, hAb⟩ := v7
         rw [e7] at g7
         have hown := hZ.a hn
         have hMW : M ≤ W.heap.size := Nat.le_trans hM2 hE.size
         refine wpList_append_own _ rfl (.tmp 37) (.tmp 40) 75 rfl M 74 it (.agg #[.int .i64 0, .int .i64 0, .int .i64 0, .int .i64 0, .int .i64 0, .slice none 0 0]) 6 64 Tryz.underlying75 hit ht0 ht1 ht2 rfl (by decide) (.slice xu k cu) k (nilT vs k) (show aa.tmps.getD 37 undef = _ by simp [g4]) hown ⟨gb, 0, none⟩ 1 1 (tourV v (.slice none 0 0)) (show aa.tmps.getD 40 undef = _ by simp [g7]) rfl (World.news_of_block (cs := #[.int .i64 v.hx, .int .i64 v.hy, .int .i64 v.cp, .int .i64 v.st, .int .i64 v.en, .slice none 0 0]) (t := 74) (fr := (0, 0)) hAb) (by simp [tourV, Value.oneCell']) (by unfold maxLen; omega) (by omega) hMW ?_
         intro v8 w8 hown8 hgrow8 hnil8
         obtain ⟨y8, c8, rfl, -, -⟩ := owns_slice hown8
         rw [← hnx.out] at hown8
         replace hown8 := Lib.hid hown8
         replace hgrow8 := Lib.hid hgrow8
         go_wp2_with fail
         exact ⟨_, rfl, Chg.of_grown hgrow8.out (fun r e => e), VC.any rfl, ZS.put ⟨⟨_, _, rfl⟩, hown8.out⟩⟩
       · intro ys done W aa hE hn hF hD hZ hG hO
         replace hE : Chg (fun j => Value.ownBlock (.slice xu k cu) = some j) w2 W := hE
         have v0 := (hF 0 (by decide) (hD 0 (by kernel_rfl))).eq rfl
         have g0 := hG 0 33 rfl (Nat.le_of_ble_eq_true rfl)
         rw [v0] at g0
         have z7 : p < W.heap.size := Nat.lt_of_lt_of_le hpi hE.size
         replace hZ := Lib.hid hZ
         go_wp2_with fail
         exact ⟨_, rfl, Chg.refl _ _, VC.val rfl rfl, hZ.out.light (by decide) (fun h => owns_below h (Below.refl _ _)) (fun x h => ⟨h.1, owns_below h.2 (Below.refl _ _)⟩)⟩
       · intro ys done W aa hE hn hF hD hZ hG hO
         replace hE : Chg (fun j => Value.ownBlock (.slice xu k cu) = some j) w2 W := hE
         have v9 := (hF 9 (by decide) (hD 9 (by kernel_rfl))).eq rfl
         have g9 := hG 9 42 rfl (Nat.le_of_ble_eq_true rfl)
         rw [v9] at g9
         have z7 : p < W.heap.size := Nat.lt_of_lt_of_le hpi hE.size
         replace hZ := Lib.hid hZ
         go_wp2_with fail
         exact ⟨_, rfl, Chg.refl _ _, VC.val rfl rfl, hZ.out.light (by decide) (fun h => owns_below h (Below.refl _ _)) (fun x h => ⟨h.1, owns_below h.2 (Below.refl _ _)⟩)⟩
      case hQA =>
       intro ys w6 hE hF hZ
       replace hE : Chg (fun j => Value.ownBlock (.slice xu k cu) = some j) w2 w6 := hE
       have v10 := (hF 10 (by decide)).eq rfl
       obtain ⟨done, hdn, hZ⟩ := hZ
       have hP1 := hZ.b (hdn 8 (by decide))
       obtain ⟨⟨y8, c8, e8⟩, ho8⟩ := hP1
       rw [e8] at ho8
       simp only [List.take_succ_cons, List.take_zero, List.drop_succ_cons, List.drop_zero, Sched.fill, v10, e8]
       clear hF hZ hdn e8 v10
       go_simp
       have hb6 := hE.at_ hF2.out.box hpg.out
       have hot6 := hE.owns hF2.out.ot (fun g e he => own_ne hF2.out.ot hF2.out.own (by decide) g e he)
       have hmp6 := hF2.out.map.same (hE.block gm hF2.out.map.inside (fun e => own_map_ne hF2.out.own hF2.out.map e))
       have hB6 : Below M w w6 := hB2.out.trans (hE.below hM2 (fun j e => (hxo.out j e).1))
       have hpo : p ≠ gm := map_ne hb6 hmp6
       have hpM := hF2.out.pM
       have hfz := hb6.free 0
       have hpi6 := hb6.inside
       have hc6 : Chg (fun j => j = p) w6 (w6.setCell ⟨p, 0, none⟩ (.slice y8 (k + 1) c8)) := Chg.set (D := fun j => j = p) w6 (g := p) rfl 0 _
       have hfin : Hid (FreshAt M (w6.setCell ⟨p, 0, none⟩ (.slice y8 (k + 1) c8)) p gm (.slice y8 (k + 1) c8) (.slice xq t.length cq) (k + 1) vs t) := Lib.hid (by
        refine ⟨by simpa using hb6.put 0 (.slice y8 (k + 1) c8), hpM, hc6.owns hot6 (fun g e he => own_at_ne hb6 hot6 (by decide) (by rw [← he]; exact e)), hc6.owns ho8 (fun g e he => own_at_ne hb6 ho8 (by decide) (by rw [← he]; exact e)), hmp6.same (hc6.block gm hmp6.inside (fun e => hpo e.symm)), hF2.out.mM⟩)
       have hB7 := Lib.hid (hB6.setCell (show M ≤ (⟨p, 0, none⟩ : Addr).block from hpM) (.slice y8 (k + 1) c8))
       have z6 := hb6.cell 0
       simp at z6
       clear hE hb6 hot6 hmp6 hB6 ho8 hc6 z0 c0 c1 c2 c3 c4
       go_wp2
       go_roundw
       case rel => exact ⟨k + 1, _, hkN.out, by go_num, hal2, hfin.out, hB7.out⟩
       case measure => simp [intOf]; omega
  · obtain rfl : k = Nf := by omega
    have hvok : Hid (∀ v ∈ vs, v.chk = 0) := Lib.hid (fun v hv => by
     obtain ⟨j, hj, e⟩ := List.getElem_of_mem hv
     exact hall.out j v (by rw [← hNf.out]; exact hj) (by rw [← e]; exact List.getElem?_eq_getElem hj))
    clear hall
    obtain ⟨wo, hwo⟩ : ∃ wo, wo = wr := ⟨_, rfl⟩
    subst hwo
    go_wp2
    go_loopw [47] (fun c wr => ∃ j : Nat, j ≤ Nt ∧ c = .int .i64 j ∧ Hid (∀ (i : Nat) q, i < j → t[i]? = some q → q.chk = 0) ∧ FreshAt M wr p gm vu (.slice xq t.length cq) k vs t ∧ Below M w wr)
     (fun c _ => Nt - (intOf c).toNat)
    case atStart => exact ⟨0, Nat.zero_le _, rfl, Lib.hid (fun j v h => by omega), hF, hbw⟩
    case round =>
     clear hF hbw hMr
     obtain ⟨j, hj, rfl, hall, hF, hbw⟩ := hrel
     have hMr : M ≤ wr.heap.size := by have h1 := hbw.size; have h2 := hM'.out; omega
     by_cases hlj : j < Nt
     · obtain ⟨q, hq⟩ : ∃ q, t[j]? = some q := ⟨t[j]'(by rw [hNt.out]; exact hlj), List.getElem?_eq_getElem _⟩
       obtain ⟨gt, ot, rfl, hgt, d0, d1, d2, d3, d4, d5, d6, d7, d8, d9⟩ := Rqs.at (hT'.out.keep (by rw [hM'.out]; exact hbw) (Nat.le_refl _)) hq
       obtain ⟨wq, hwq⟩ : ∃ wq, wr.alloc (.cells #[.int .i64 q.fx, .int .i64 q.fy, .int .i64 q.tx, .int .i64 q.ty, .int .i64 q.pe, .int .i64 q.pl, .int .i64 q.de, .int .i64 q.dl, .int .i64 q.ld, .int .i64 q.sv] 43) = wq := ⟨_, rfl⟩
       obtain ⟨b, hb⟩ : ∃ b, wr.heap.size = b := ⟨_, rfl⟩
       have hA1 : At wq b 43 #[.int .i64 q.fx, .int .i64 q.fy, .int .i64 q.tx, .int .i64 q.ty, .int .i64 q.pe, .int .i64 q.pl, .int .i64 q.de, .int .i64 q.dl, .int .i64 q.ld, .int .i64 q.sv] := by rw [← hwq]; exact At.new_ _ _ _ hb.symm
       have hb1 : Below wr.heap.size wr wq := by rw [← hwq]; exact (Below.refl _ _).alloc (Nat.le_refl _) _
       have hF1 := Lib.hid (hF.on hb1)
       have hB1 := Lib.hid (hbw.trans (hb1.mono hMr))
       have hMq : M ≤ wq.heap.size := Nat.le_trans hMr hb1.size
       have hc := Order.Check_any q.fx q.fy q.tx q.ty q.pe q.pl q.de q.dl q.ld q.sv wq
       obtain ⟨C, hC⟩ : ∃ C, chk q.fx q.fy q.tx q.ty q.pe q.pl q.de q.dl q.ld q.sv = C := ⟨_, rfl⟩
       rw [hC] at hc
       have hCv := Lib.hid (show q.chk = C from hC)
       have hq' := Lib.hid hq
       have hkI : (j : Int) < (Nt : Int) := by omega
       have hkN := Lib.hid hlj
       have c0 := hA1.cell 0
       have c1 := hA1.cell 1
       have c2 := hA1.cell 2
       have c3 := hA1.cell 3
       have c4 := hA1.cell 4
       have c5 := hA1.cell 5
       have c6 := hA1.cell 6
       have c7 := hA1.cell 7
       have c8 := hA1.cell 8
       have c9 := hA1.cell 9
       simp at c0 c1 c2 c3 c4 c5 c6 c7 c8 c9
       have hqi := hA1.inside
       have hwq' := Lib.hid hwq
       have hb' := Lib.hid hb
       clear hC hq hbw hF hwq hb hb1 hA1
       go_upto_region 14 with fail
       try simp only [hb'.out]
       rw [hwq'.out]
       clear d0 d1 d2 d3 d4 d5 d6 d7 d8 d9
       go_wp2_with fail
       refine hc.mono ?_
       clear hc c0 c1 c2 c3 c4 c5 c6 c7 c8 c9
       rintro e w2 ⟨rfl, hb2⟩
       have hB2 := Lib.hid (hB1.out.trans (hb2.mono hMq))
       have hF2 := Lib.hid (hF1.out.on hb2)
       clear hb2 hF1 hB1
       cases hC0 : (C == 0)
       · have hC1 : (C != 0) = true := by simpa using hC0
         have he := Lib.hid (newE_req (vs := vs) hcnt.out (List.mem_of_getElem? hq'.out) (by rw [hCv.out]; simpa using hC0))
         go_wp2
         refine bodyPost_ret (v := .tuple #[.pointer none, .int .i64 2]) (by simp [results, Tryz.results19, go_sem]) rfl ?_
         exact ⟨(new_no he.out (by omega) (A := True)).1, fun h => absurd (he.out.symm.trans h) (by omega), hB2.out⟩
       · have hC1 : (C != 0) = false := by simpa using hC0
         have hal2 : Hid (∀ (i : Nat) q, i < j + 1 → t[i]? = some q → q.chk = 0) := Lib.hid (fun i v2 hj2 hv2 => by
          by_cases hjk : i = j
          · subst hjk
            obtain rfl : q = v2 := Option.some.inj (hq'.out.symm.trans hv2)
            rw [hCv.out]; simpa using hC0
          · exact hall.out i v2 (by omega) hv2)
         go_wp2
         go_roundw
         case rel => exact ⟨j + 1, hkN.out, by go_num, hal2, hF2.out, hB2.out⟩
         case measure => simp [intOf]; omega
     · obtain rfl : j = Nt := by omega
       have htok : Hid (∀ q ∈ t, q.chk = 0) := Lib.hid (fun q hq => by
        obtain ⟨i, hi, e⟩ := List.getElem_of_mem hq
        exact hall.out i q (by rw [← hNt.out]; exact hi) (by rw [← e]; exact List.getElem?_eq_getElem hi))
       have he := Lib.hid (newE_ok hcnt.out hvok.out htok.out)
       have hfin : Hid (∃ G : Nat → Prop, (∀ k, G k → M ≤ k ∧ k < wr.heap.size) ∧ ∀ D : Nat → Prop, (∀ k, G k → D k) → (∀ k, D k → G k ∨ k < M) → PlanAt D G wr p (newS vs t)) := Lib.hid (by
        obtain ⟨-, ⟨-, h0⟩ | ⟨gt, cap, cur, e9, hb, hg, -⟩⟩ := hF.own
        · omega
        · subst e9
          have hF9 : FreshAt M wr p gm (.slice (some ⟨gt, 0, none⟩) vs.length cap) (.slice xq t.length cq) vs.length vs t := by rw [hNf.out]; exact hF
          refine ⟨fun i => i = gt ∨ i = gm, fun i hi => ?_, fun D hD1 hD2 => ⟨gt, gm, _, _, _, hF9.done (fun i hi => (hD2 i hi).elim (fun h => h.elim .inl (fun h => .inr (.inl h))) (fun h => .inr (.inr h))) (hD1 _ (.inl rfl)) (hD1 _ (.inr rfl))⟩⟩
          rcases hi with rfl | rfl
          · exact ⟨hb, (Array.getElem?_eq_some_iff.1 hg).1⟩
          · exact ⟨hF.mM, hF.map.inside⟩)
       clear hall hF hvok htok
       go_wp2
       refine bodyPost_ret (v := .tuple #[.pointer (some ⟨p, 0, none⟩), .int .i64 0]) (by simp [results, Tryz.results19, go_sem]) rfl ?_
       exact ⟨fun h => absurd he.out h, fun _ => ⟨p, rfl, hfin.out⟩, hbw⟩
end Go.Proofs.YteclpblfleakhaaGreatDoor.Plan

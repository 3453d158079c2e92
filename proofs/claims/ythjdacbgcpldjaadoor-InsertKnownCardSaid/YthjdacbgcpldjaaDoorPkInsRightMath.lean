import Derived.Test.YthjdacbgcpldjaaDoorPkWhenTrip
import Derived.Test.YthjdacbgcpldjaaDoorPkFeasSomeMath
import Derived.Test.YthjdacbgcpldjaaDoorPkFeasAgMath
import Derived.Test.YthjdacbgcpldjaaDoorPkWhenDraft
import Derived.Test.YthjdacbgcpldjaaDoorPkPlaceDist

/-
  A request may be put at two places just if the route with it there is right; what that changes. No program is spoken of here.
-/
namespace Go.Proofs.YthjdacbgcpldjaaDoor.Ins
open Go.RowKit Go.Proofs.YthjdacbgcpldjaaDoor.Order Go.Proofs.YthjdacbgcpldjaaDoor.Place Go.Proofs.YthjdacbgcpldjaaDoor.Route Go.Proofs.YthjdacbgcpldjaaDoor.When Go.Proofs.YthjdacbgcpldjaaDoor.Load Go.Proofs.YthjdacbgcpldjaaDoor.Feas
set_option linter.unusedVariables false

theorem dr_of {v : Vh} {l : List (Int × Int)} {t : List Rq} (hv : v.chk = 0) (hf : Fine l t.length) (hl : l.length ≤ 12) (ht : ∀ q ∈ t, q.dr) : Feas.Dr v l t :=
  ⟨hv, fun q hq => (ht q hq).1, hf.2.1, by omega, hf.2.2.1⟩
theorem fault_iff {v : Vh} {l : List (Int × Int)} {t : List Rq} (h : Feas.Dr v l t) : (faultV v l t).1 = 0 ↔ errT v l t = 0 ∧ fitE v l t = 0 := by
  rcases h.agree with ⟨h1, h2, h3⟩ | ⟨h1, h2, _⟩ | ⟨h1, h2, _⟩ <;> omega
theorem less_fault {v : Vh} {l : List (Int × Int)} {t : List Rq} (h : Feas.Dr v l t) (r : Int) (hf : (faultV v l t).1 = 0) : errT v (woL r l) t = 0 ∧ fitE v (woL r l) t = 0 :=
  (fault_iff (h.less r)).1 ((less_serves h r).2 hf)
/-- A request may be put there just if nothing is wrong with the route then. -/
theorem rise_iff {v : Vh} {l : List (Int × Int)} {t : List Rq} {r i j : Int} (hm : Feas.Dr v (moreL l r i j) t) (hw : mayW l r i j = true) (hr : inT t r = true) (hl : l.length ≤ 14) :
    riseE v l t r i j = 0 ↔ (faultV v (moreL l r i j) t).1 = 0 := by
  have hwi := mayW_iff.1 hw
  rw [fault_iff hm]
  constructor
  · intro h
    have := riseE_zero h
    exact ⟨this.2.2, this.2.1⟩
  · intro h
    have hl0 := less_fault hm r ((fault_iff hm).2 h)
    have e : woL r (moreL l r i j) = l := wo_with hw
    rw [e] at hl0
    have hto : (inT t r && noR r l) = true := by rw [hr, hwi.2.2.2.2.2]; rfl
    have hz : withE v l t r i j = 0 := withE_ok hto hl0.1 (by omega) (by rw [placesB_iff]; exact ⟨hwi.1, hwi.2.1, hwi.2.2.1⟩)
    rw [riseE_err hz h.2]
    exact h.1
theorem endT_early {v : Vh} {l : List (Int × Int)} {t : List Rq} (h : Feas.Dr v l t) (he : errT v l t = 0) : earlyL (sp0 v) (visL t l) = some (endA (sp0 v) (visL t l)) := by
  have ho := (When.errT_zero he).2
  unfold When.okT at ho
  rw [Bool.and_eq_true] at ho
  exact ((early_sched (a := sp0 v) h.visL).1 ho.1).1
theorem home_may {v : Vh} (h : v.chk = 0) : MayV (homeV v) := by
  unfold Vh.chk at h
  exact ⟨((veh_iff ..).1 h).1, Int.le_refl _⟩
/-- Without a request the end is no later. -/
theorem less_home {v : Vh} {l : List (Int × Int)} {t : List Rq} (h : Feas.Dr v l t) (r : Int) (he : errT v l t = 0) (he' : errT v (woL r l) t = 0) : homeT v (woL r l) t ≤ homeT v l t := by
  rw [homeT_ok he, homeT_ok he']
  obtain ⟨b', e1, e2⟩ := early_less (r := r) (g := visV t) (a' := sp0 v) h.may (home_may h.hv).1 (endT_early h he) (fun p _ => Int.le_refl _)
  have e3 := endT_early (h.less r) he'
  obtain rfl : b' = endA (sp0 v) (visL t (woL r l)) := Option.some.inj (e1.symm.trans e3)
  exact later_at e2 (home_may h.hv)
/-- The other stops are no earlier with it. -/
theorem less_times {v : Vh} {l : List (Int × Int)} {t : List Rq} (h : Feas.Dr v l t) (r : Int) (hf : (faultV v l t).1 = 0) : LeL (timesL v (woL r l) t) (restL r l (timesL v l t)) := by
  have he := ((fault_iff h).1 hf).1
  have hr : rightB v l t (timesL v l t) = true := by rw [early_right h he]; exact decide_eq_true hf
  exact (right_some (h.less r) ((less_serves h r).1 _ hr)).2.2

/-- The way without some stops is no longer. -/
theorem way_less {t : List Rq} {r : Int} {h : Int × Int} (hh : mayB h = true) : ∀ (l : List (Int × Int)) (a a' : Int × Int) (c : Int), (∀ s ∈ l, MayV (visV t s)) → mayB a = true → (∀ p, mayB p = true → distV a' p ≤ c + distV a p) →
    wayD a' (spotsL t (woL r l) ++ [h]) ≤ c + wayD a (spotsL t l ++ [h])
  | [], a, a', c, _, ha, hp => by
    have := hp h hh
    simp only [woL, List.filter_nil, spotsL, List.map_nil, List.nil_append, wayD]
    omega
  | s :: l, a, a', c, hm, ha, hp => by
    have hs := (hm s (List.mem_cons_self ..)).1
    have hm' : ∀ s ∈ l, MayV (visV t s) := fun x hx => hm x (List.mem_cons_of_mem _ hx)
    have e : spotsL t (s :: l) ++ [h] = spotV (visV t s) :: (spotsL t l ++ [h]) := rfl
    rw [e, wayD]
    by_cases hr : s.1 = r
    · rw [wo_cons_own hr]
      have ih := way_less (r := r) hh l (spotV (visV t s)) a' (c + distV a (spotV (visV t s))) hm' hs (fun p hpp => by
        have h1 := hp p hpp
        have h2 : distV a p ≤ distV a (spotV (visV t s)) + distV (spotV (visV t s)) p := dist_tri ha hs hpp
        omega)
      omega
    · rw [wo_cons_other hr]
      have e2 : spotsL t (s :: woL r l) ++ [h] = spotV (visV t s) :: (spotsL t (woL r l) ++ [h]) := rfl
      rw [e2, wayD]
      have ih := way_less (r := r) hh l (spotV (visV t s)) (spotV (visV t s)) 0 hm' hs (fun p hpp => by omega)
      have h1 : distV a' (spotV (visV t s)) ≤ c + distV a (spotV (visV t s)) := hp _ hs
      omega
theorem wayO_less {v : Vh} {l : List (Int × Int)} {t : List Rq} (h : Feas.Dr v l t) (r : Int) : wayO v (woL r l) t ≤ wayO v l t := by
  have hv := (home_may h.hv).1
  have := way_less (t := t) (r := r) (h := (v.hx, v.hy)) hv l (v.hx, v.hy) (v.hx, v.hy) 0 h.may hv (fun p _ => by omega)
  unfold wayO
  omega

/-- Where a stop of another request stands without r. -/
theorem rest_get (r : Int) : ∀ (m : List (Int × Int)) (ts : List Tm) (n : Nat) (s : Int × Int) (y : Tm), ts.length = m.length → m[n]? = some s → ts[n]? = some y → s.1 ≠ r →
    (woL r m)[(woL r (m.take n)).length]? = some s ∧ (restL r m ts)[(woL r (m.take n)).length]? = some y
  | [], _, n, s, y, _, h, _, _ => by simp at h
  | x :: m, [], n, s, y, h, _, _, _ => by simp at h
  | x :: m, z :: ts, 0, s, y, hl, h1, h2, h3 => by
    simp only [List.getElem?_cons_zero, Option.some.injEq] at h1 h2
    subst h1 h2
    rw [wo_cons_other h3]
    simp [woL, restL, h3]
  | x :: m, z :: ts, n + 1, s, y, hl, h1, h2, h3 => by
    have ih := rest_get r m ts n s y (by simpa using hl) (by simpa using h1) (by simpa using h2) h3
    by_cases hx : x.1 = r
    · rw [List.take_succ_cons, wo_cons_own hx, wo_cons_own hx, restL, if_pos hx]
      exact ih
    · rw [List.take_succ_cons, wo_cons_other hx, wo_cons_other hx, restL, if_neg hx, List.length_cons]
      simpa using ih
theorem wo_take_snoc {r : Int} {m : List (Int × Int)} {n : Nat} {s : Int × Int} (h : m[n]? = some s) : (woL r (m.take (n + 1))).length = (woL r (m.take n)).length + (if s.1 = r then 0 else 1) := by
  rw [List.take_add_one, h]
  simp only [Option.toList_some]
  rw [wo_append, List.length_append]
  by_cases hs : s.1 = r <;> simp [woL, hs]
theorem rowT_take {v : Vh} {l m : List (Int × Int)} {t : List Rq} {i : Nat} (h : m.take i = l.take i) {k : Nat} (hk : k < i) : (rowT v m t)[k]? = (rowT v l t)[k]? := by
  have key : ∀ x : List (Int × Int), (rowT v x t)[k]? = (tmsL (stepsL (sp0 v) (visL t (x.take i))))[k]? := fun x => by
    have e : visL t x = visL t (x.take i) ++ visL t (x.drop i) := by
      unfold visL
      rw [← List.map_append, List.take_append_drop]
    unfold rowT
    rw [e, stepsL_append]
    unfold tmsL
    rw [List.map_append]
    by_cases hx : k < x.length
    · rw [List.getElem?_append_left (by rw [List.length_map, stepsL_length]; simp [visL]; omega)]
    · have h1 : x.take i = x := List.take_of_length_le (by omega)
      have h2 : x.drop i = [] := List.drop_eq_nil_of_le (by omega)
      rw [h2]
      simp [visL, stepsL]
  rw [key m, key l, h]

/-- What 'stays' asks: one stop of another request, at place n of the longer route. -/
theorem stay_one {v : Vh} {l : List (Int × Int)} {t : List Rq} {r i j : Int} (hm : Feas.Dr v (moreL l r i j) t) (hw : mayW l r i j = true) (hf : (faultV v (moreL l r i j) t).1 = 0) {n : Nat} {s : Int × Int} {y : Tm}
    (hs : (moreL l r i j)[n]? = some s) (hy : (timesL v (moreL l r i j) t)[n]? = some y) (hr : s.1 ≠ r) :
    ∃ k z, (woL r ((moreL l r i j).take n)).length = k ∧ l[k]? = some s ∧ (timesL v l t)[k]? = some z ∧ z.be ≤ y.be ∧ z.lv ≤ y.lv ∧ ((k : Int) < i → z = y) := by
  have hwi := mayW_iff.1 hw
  have e : woL r (moreL l r i j) = l := wo_with hw
  have he := ((fault_iff hm).1 hf).1
  have hle := less_fault hm r hf
  rw [e] at hle
  have htl : (timesL v (moreL l r i j) t).length = (moreL l r i j).length := by rw [timesL_ok he, rowT_length]
  obtain ⟨g1, g2⟩ := rest_get r _ _ n s y htl hs hy hr
  rw [e] at g1
  have hL := (less_times hm r hf).get
  rw [e] at hL
  have hkl := (List.getElem?_eq_some_iff.1 g1).1
  have htl2 : (timesL v l t).length = l.length := by rw [timesL_ok hle.1, rowT_length]
  obtain ⟨z, hz⟩ : ∃ z, (timesL v l t)[(woL r ((moreL l r i j).take n)).length]? = some z := ⟨_, List.getElem?_eq_getElem (by omega)⟩
  have hle2 := hL.2 _ z y hz g2
  refine ⟨_, z, rfl, g1, hz, hle2.2.1, hle2.2.2, fun hki => ?_⟩
  -- ahead of place i both are one route
  obtain ⟨I, rfl⟩ : ∃ I : Nat, i = I := ⟨i.toNat, by omega⟩
  have hIl : I ≤ l.length := by omega
  have htk : (moreL l r I j).take I = l.take I := by
    unfold moreL withL
    rw [Int.toNat_natCast, List.take_append_of_le_length (by rw [List.length_take]; omega), List.take_take, Nat.min_self]
  have hself : woL r (l.take I) = l.take I := wo_self (noR_iff.2 fun x hx => noR_iff.1 hwi.2.2.2.2.2 x (List.mem_of_mem_take hx))
  have hnI : n < I := by
    refine Nat.lt_of_not_le fun hc => ?_
    have h1 := (List.take_append_drop I ((moreL l r I j).take n)).symm
    rw [List.take_take, Nat.min_eq_left hc] at h1
    rw [h1, wo_append, List.length_append, htk, hself, List.length_take] at hki
    omega
  have hkn : (woL r ((moreL l r I j).take n)).length = n := by
    have h1 : (moreL l r I j).take n = l.take n := by
      have := congrArg (List.take n) htk
      rw [List.take_take, List.take_take, Nat.min_eq_left (by omega)] at this
      exact this
    rw [h1, wo_self (noR_iff.2 fun x hx => noR_iff.1 hwi.2.2.2.2.2 x (List.mem_of_mem_take hx)), List.length_take]
    omega
  rw [hkn] at hz
  rw [timesL_ok hle.1] at hz
  rw [timesL_ok he, rowT_take htk hnI] at hy
  exact Option.some.inj (hz.symm.trans hy)

/-- A request that the route has, put back. -/
theorem back_rise {v : Vh} {l : List (Int × Int)} {t : List Rq} (h : Feas.Dr v l t) (hl : l.length ≤ 12) (hf : (faultV v l t).1 = 0) {s : Int × Int} (hs : s ∈ l) :
    riseE v (woL s.1 l) t s.1 (ixV (s.1, 0) l) (ixV (s.1, 1) l - 1) = 0 ∧ riseV v (woL s.1 l) t s.1 (ixV (s.1, 0) l) (ixV (s.1, 1) l - 1) = homeT v l t - homeT v (woL s.1 l) t ∧ (woL s.1 l).length + 2 = l.length ∧ (faultV v (woL s.1 l) t).1 = 0 := by
  obtain ⟨b1, b2, b3, b4⟩ := back h.hl hs h.hn
  rw [withV_more b3] at b4
  have hin : inT t s.1 = true := inT_iff.2 ⟨(isR_iff.1 h.hl s hs).1, h.hr s hs⟩
  have hz : riseE v (woL s.1 l) t s.1 (ixV (s.1, 0) l) (ixV (s.1, 1) l - 1) = 0 := (rise_iff (by rw [b4]; exact h) b3 hin (by omega)).2 (by rw [b4]; exact hf)
  refine ⟨hz, ?_, b2, (less_serves h s.1).2 hf⟩
  rw [riseV_ok hz, b4]

end Go.Proofs.YthjdacbgcpldjaaDoor.Ins

/-
  The contract of the law's own stays: no stop behind is earlier, and those ahead stay. Generated: InsStays.gen.py.
-/
namespace Go.Proofs.YthjdacbgcpldjaaDoor.Ins
open Go.RowKit Go.Sort Go.Proofs.YthjdacbgcpldjaaDoor.Mem Go.Proofs.YthjdacbgcpldjaaDoor.Route Go.Proofs.YthjdacbgcpldjaaDoor.When Go.Proofs.YthjdacbgcpldjaaDoor.Load
set_option linter.unusedVariables false

set_option maxRecDepth 100000 in
set_option maxHeartbeats 8000000 in
theorem stays_any (ul ua um ub : Value) (l m : List (Int × Int)) (a b : List Tm) (r i : Int) (hwl : (woL r m).length = l.length) (hal : a.length = l.length) (hbm : b.length = m.length) (hm : m.length ≤ 1000000)
    (H : ∀ n s y, m[n]? = some s → b[n]? = some y → s.1 ≠ r → ∃ k z, (woL r (m.take n)).length = k ∧ l[k]? = some s ∧ a[k]? = some z ∧ z.be ≤ y.be ∧ z.lv ≤ y.lv ∧ ((k : Int) < i → z = y))
    (w : World) (hL : Row w.heap.size w ul l) (hA : Tms w.heap.size w ua a) (hM : Row w.heap.size w um m) (hB : Tms w.heap.size w ub b) :
    Calls Tryd.prog 20 #[ul, ua, um, ub, .int .i64 r, .int .i64 i] w fun e w' => e = .returned (.bool true) ∧ Below w.heap.size w w' := by
  obtain ⟨xl, N, cl, rfl, hN, -, hl1, hl2⟩ := hL.opened
  obtain ⟨xa, Na, ca, rfl, hNa, ha1, ha2, -⟩ := hA.opened
  obtain ⟨xm, M, cm, rfl, hMM, -, hm1, hm2⟩ := hM.opened
  obtain ⟨xb, Nb, cb, rfl, hNb, hb1, hb2, -⟩ := hB.opened
  have hwN : (woL r m).length ≤ m.length := wo_length r m
  rw [hMM.out] at hm hwN
  have hNaN : Na = N := by rw [← hNa, hal, hN.out]
  have hNbM : Nb = M := by rw [← hNb, hbm, hMM.out]
  subst hNaN
  subst hNbM
  have hL' := Lib.hid hL
  have hA' := Lib.hid hA
  have hM' := Lib.hid hM
  have hB' := Lib.hid hB
  have H' := Lib.hid H
  have hwl' : Hid ((woL r m).length = Na) := Lib.hid (by rw [hwl, hN.out])
  have hNl : Na ≤ Nb := by rw [hwl, hN.out] at hwN; exact hwN
  have hMb := Lib.hid hNb
  unfold maxLen at hl2 ha2 hm2 hb2
  clear hL hA hM hB H hwl hal hbm hNa hNb hwN
  go_enter Tryd.func20, Tryd.ntmps20
  go_wp2
  go_loopw [13, 14] (fun k n wr => ∃ n' k' : Nat, n = .int .i64 n' ∧ n' ≤ Nb ∧ k = .int .i64 k' ∧ Hid ((woL r (m.take n')).length = k') ∧ Below w.heap.size w wr)
    (fun _ n _ => Nb - (intOf n).toNat)
  case atStart => exact ⟨0, 0, rfl, Nat.zero_le _, rfl, Lib.hid (by simp [woL]), Below.refl _ _⟩
  case round =>
    obtain ⟨n, k, rfl, hn, rfl, hk, hbw⟩ := hrel
    by_cases hlt : n < Nb
    · obtain ⟨⟨s1, s2⟩, hs⟩ : ∃ s, m[n]? = some s := ⟨m[n]'(by rw [hMM.out]; exact hlt), List.getElem?_eq_getElem _⟩
      obtain ⟨gm, om, rfl, hgm, e1, e2⟩ := Row.stop (hM'.out.keep hbw (Nat.le_refl _)) hs
      simp at e1 e2
      have hnx := wo_take_snoc (r := r) hs
      rw [hk.out] at hnx
      have hNg : Hid (n + 1 ≤ Nb) := Lib.hid hlt
      have hni : (n : Int) < (Nb : Int) := by omega
      have hkb : k ≤ n := by have h9 := wo_length r (m.take n); rw [hk.out, List.length_take] at h9; omega
      by_cases hr : s1 = r
      · subst hr
        rw [if_pos rfl] at hnx
        have hnx' := Lib.hid hnx
        clear hnx hs hlt
        go_wp2
        go_roundw
        case rel => exact ⟨n + 1, k, by go_num, hNg.out, rfl, Lib.hid hnx'.out, hbw⟩
        case measure => simp [intOf]; omega
      · rw [if_neg hr] at hnx
        obtain ⟨y, hy⟩ : ∃ y, b[n]? = some y := ⟨b[n]'(by rw [hMb.out]; exact hlt), List.getElem?_eq_getElem _⟩
        obtain ⟨k', z, hk', hlk, hz, h1, h2, h3⟩ := H'.out n (s1, s2) y hs hy hr
        obtain rfl : k = k' := hk.out.symm.trans hk'
        have hkN : k < Na := by have := (List.getElem?_eq_some_iff.1 hlk).1; rw [hN.out] at this; exact this
        obtain ⟨gl, ol, rfl, hgl, f1, f2⟩ := Row.stop (hL'.out.keep hbw (Nat.le_refl _)) hlk
        obtain ⟨ga, oa, rfl, hga, t0, t1, t2⟩ := Tms.at (hA'.out.keep hbw (Nat.le_refl _)) hz
        obtain ⟨gb, ob, rfl, hgb, u0, u1, u2⟩ := Tms.at (hB'.out.keep hbw (Nat.le_refl _)) hy
        simp at f1 f2
        have hrb : (s1 == r) = false := by simpa using hr
        have hnx' := Lib.hid hnx
        have hbw' := Lib.hid hbw
        have d1 : decide (Na ≤ k) = false := by simp; omega
        have d2 : decide (Nb ≤ n) = false := by simp; omega
        have d3 : decide (y.be < z.be) = false := by simp; omega
        have d4 : decide (y.lv < z.lv) = false := by simp; omega
        have hki : (k : Int) < (Na : Int) := by omega
        have hk9 : k + 1 ≤ 1000001 := by omega
        have h1' : ¬ y.be < z.be := by omega
        have h2' : ¬ y.lv < z.lv := by omega
        by_cases hi : (k : Int) < i
        · obtain rfl := h3 hi
          have d5 : decide ((k : Int) < i) = true := by simpa using hi
          clear hnx hs hlt hbw hy hlk hz h1 h2 h3 hr hk'
          go_upto_region 6 with fail
          go_quiet (fail)
          have hB4 := Place.below_drewN hbw'.out nq
          clear hbw' e1 e2 f1 f2 t0 t1 t2 u0 u1 u2 d1 d2 d3 d4 d5 h1' h2' hi
          go_wp2
          go_roundw
          case rel => exact ⟨n + 1, k + 1, by go_num, hNg.out, by go_num, Lib.hid hnx'.out, hB4⟩
          case measure => simp [intOf]; omega
        · have d5 : decide ((k : Int) < i) = false := by simpa using hi
          clear hnx hs hlt hbw hy hlk hz h1 h2 h3 hr hk'
          go_upto_region 6 with fail
          go_quiet (fail)
          have hB4 := Place.below_drewN hbw'.out nq
          clear hbw' e1 e2 f1 f2 t0 t1 t2 u0 u1 u2 d1 d2 d3 d4 d5 h1' h2' hi
          go_wp2
          go_roundw
          case rel => exact ⟨n + 1, k + 1, by go_num, hNg.out, by go_num, Lib.hid hnx'.out, hB4⟩
          case measure => simp [intOf]; omega
    · obtain rfl : n = Nb := by omega
      have he : m.take n = m := by rw [← hMM.out, List.take_length]
      rw [he, hwl'.out] at hk
      obtain rfl : Na = k := hk.out
      go_wp2
      go_ret
      exact ⟨Route.ret_bool (by first | rfl | simp), hbw⟩

end Go.Proofs.YthjdacbgcpldjaaDoor.Ins

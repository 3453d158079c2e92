import Derived.Test.YtlbghdiebjldjaaGreatDoorPkPlanKeys

namespace Go.Proofs.YtlbghdiebjldjaaGreatDoor.Plan
open Go.RowKit Go.Sort Go.Proofs.YtlbghdiebjldjaaGreatDoor.Mem Go.Proofs.YtlbghdiebjldjaaGreatDoor.Route Go.Proofs.YtlbghdiebjldjaaGreatDoor.When Go.Proofs.YtlbghdiebjldjaaGreatDoor.Load Go.Proofs.YtlbghdiebjldjaaGreatDoor.Feas Go.Proofs.YtlbghdiebjldjaaGreatDoor.Order
set_option linter.unusedVariables false
def newE (vs : List Vh) (t : List Rq) : Int := if vs.length < 1 ∨ 4 < vs.length then 11 else if (vs.any fun v => decide (v.chk ≠ 0)) then 2 else if (t.any fun q => decide (q.chk ≠ 0)) then 2 else 0
theorem newE_count {vs : List Vh} {t : List Rq} (h : vs.length < 1 ∨ 4 < vs.length) : newE vs t = 11 := by unfold newE; rw [if_pos h]
theorem newE_veh {vs : List Vh} {t : List Rq} (h : ¬ (vs.length < 1 ∨ 4 < vs.length)) {v : Vh} (hv : v ∈ vs) (hc : v.chk ≠ 0) : newE vs t = 2 := by
 unfold newE
 rw [if_neg h, if_pos]
 exact List.any_eq_true.2 ⟨v, hv, by simpa using hc⟩
theorem newE_req {vs : List Vh} {t : List Rq} (h : ¬ (vs.length < 1 ∨ 4 < vs.length)) {q : Rq} (hq : q ∈ t) (hc : q.chk ≠ 0) : newE vs t = 2 := by
 unfold newE
 rw [if_neg h]
 split
 · rfl
 · rw [if_pos]
   exact List.any_eq_true.2 ⟨q, hq, by simpa using hc⟩
theorem newE_ok {vs : List Vh} {t : List Rq} (h : ¬ (vs.length < 1 ∨ 4 < vs.length)) (hv : ∀ v ∈ vs, v.chk = 0) (hq : ∀ q ∈ t, q.chk = 0) : newE vs t = 0 := by
 unfold newE
 rw [if_neg h, if_neg, if_neg]
 · rw [List.any_eq_true]; rintro ⟨q, h1, h2⟩; simp [hq q h1] at h2
 · rw [List.any_eq_true]; rintro ⟨q, h1, h2⟩; simp [hv q h1] at h2
theorem newE_zero {vs : List Vh} {t : List Rq} (h : newE vs t = 0) : (1 ≤ vs.length ∧ vs.length ≤ 4) ∧ (∀ v ∈ vs, v.chk = 0) ∧ ∀ q ∈ t, q.chk = 0 := by
 unfold newE at h
 split at h
 · omega
 split at h
 · omega
 split at h
 · omega
 rename_i h1 h2 h3
 refine ⟨by omega, fun v hv => ?_, fun q hq => ?_⟩
 · apply Classical.byContradiction
   intro hc
   exact h2 (List.any_eq_true.2 ⟨v, hv, by simpa using hc⟩)
 · apply Classical.byContradiction
   intro hc
   exact h3 (List.any_eq_true.2 ⟨q, hq, by simpa using hc⟩)
theorem info_stops : (Tryz.prog.info? 59).map (fun i => (i.zero, i.size, i.bytes)) = some (some (.slice none 0 0), 1, 24) := by kernel_rfl
theorem info_veh : (Tryz.prog.info? 64).map (fun i => (i.zero, i.size, i.bytes)) = some (some (.agg #[.int .i64 0, .int .i64 0, .int .i64 0, .int .i64 0, .int .i64 0]), 5, 40) := by kernel_rfl
theorem info_req : (Tryz.prog.info? 72).map (fun i => (i.zero, i.size, i.bytes)) = some (some (.agg #[.int .i64 0, .int .i64 0, .int .i64 0, .int .i64 0, .int .i64 0, .int .i64 0, .int .i64 0, .int .i64 0, .int .i64 0, .int .i64 0]), 10, 80) := by kernel_rfl
theorem made_stops (N : Nat) (hN : N ≤ 1000000) : ∀ W, (Instr.makeSlice 57 (.int .i64 (N : Int)) (.int .i64 (N : Int))).run Tryz.prog W = .ok (.slice (some ⟨W.heap.size, 0, none⟩) N N) (W.alloc (.cells (madeCells (Value.slice none 0 0).cells (N * 1)) 59)) := by
 obtain ⟨i, hi, hz, hs, hb⟩ := info_parts info_stops
 intro W
 have h := run_makeSlice (P := Tryz.prog) W 57 59 i (.slice none 0 0) Tryz.underlying57 hi hz .i64 .i64 N N (by omega) (by omega) (by rw [hs]; omega) (by rw [hb]; omega) (by omega)
 rw [hs] at h
 simpa using h
theorem cells_nil (N : Nat) : (madeCells (Value.slice none 0 0).cells (N * 1)).toList = List.replicate N (Value.slice none 0 0) := by
 rw [Nat.mul_one]
 exact toList_madeCells_one _ N
theorem at_ne {W : World} {g h : Nat} {t t' : TypeId} {cs cs' : Array Value} (h1 : At W g t cs) (h2 : W.heap[h]? = some (.cells cs' t' (0, 0))) (hne : t ≠ t') : g ≠ h := by
 rintro rfl
 have e := h1.symm.trans h2
 simp only [Option.some.injEq, Obj.cells.injEq] at e
 exact hne e.2.1
theorem own_ne {W : World} {b1 b2 s1 s2 n1 n2 : Nat} {t t' : TypeId} {v v' : Value} {xs xs' : List Value} (h1 : W.ownsRow b1 t s1 v n1 xs) (h2 : W.ownsRow b2 t' s2 v' n2 xs') (hne : t ≠ t') : ∀ g, v.ownBlock = some g → v'.ownBlock ≠ some g := by
 intro g e1 e2
 obtain ⟨-, ⟨rfl, -⟩ | ⟨g1, c1, cur1, rfl, -, hg1, -⟩⟩ := h1
 · cases e1
 obtain ⟨-, ⟨rfl, -⟩ | ⟨g2, c2, cur2, rfl, -, hg2, -⟩⟩ := h2
 · cases e2
 simp only [Value.ownBlock, Option.some.injEq] at e1 e2
 exact at_ne (show At W _ t cur1 from hg1) hg2 hne (e1.trans e2.symm)
theorem own_at_ne {W : World} {b2 s2 n2 p : Nat} {t t' : TypeId} {v' : Value} {cs : Array Value} {xs' : List Value} (h1 : At W p t cs) (h2 : W.ownsRow b2 t' s2 v' n2 xs') (hne : t ≠ t') : v'.ownBlock ≠ some p := by
 intro e2
 obtain ⟨-, ⟨rfl, -⟩ | ⟨g2, c2, cur2, rfl, -, hg2, -⟩⟩ := h2
 · cases e2
 simp only [Value.ownBlock, Option.some.injEq] at e2
 exact at_ne h1 hg2 hne e2.symm
theorem new_no {vs : List Vh} {t : List Rq} {E : Int} (h : newE vs t = E) (h0 : E ≠ 0) {A : Prop} : (newE vs t ≠ 0 → Ending.returned (.tuple #[.pointer none, .int .i64 E]) = .returned (.tuple #[.pointer none, .int .i64 (newE vs t)])) ∧ (newE vs t = 0 → A) :=
 ⟨fun _ => by rw [h], fun h2 => absurd (h.symm.trans h2) h0⟩
structure NewAt (M : Nat) (W : World) (p gr : Nat) (vf vt : Value) (vs : List Vh) (t : List Rq) : Prop where
 box : At W p 89 #[vf, vt, .slice (some ⟨gr, 0, none⟩) vs.length vs.length]
 pM : M ≤ p
 ovs : W.ownsRow M 64 5 vf vs.length (flatV vs)
 ot : W.ownsRow M 72 10 vt t.length (flatQ t)
 own : W.ownsRow M 59 1 (.slice (some ⟨gr, 0, none⟩) vs.length vs.length) vs.length (List.replicate vs.length (.slice none 0 0))
theorem NewAt.ref {M : Nat} {W : World} {p gr : Nat} {vf vt : Value} {vs : List Vh} {t : List Rq} (h : NewAt M W p gr vf vt vs t) {D : Nat → Prop} (hg : D gr) (hD : ∀ k, D k → k = gr ∨ k < M) :
 RefAt D M W p gr vf vt vs.length (List.replicate vs.length (.slice none 0 0)) (newS vs t) := by
 have hlen : (newS vs t).rows.length = vs.length := by simp [newS]
 have hgr := World.ownsRow.lt h.own gr rfl
 have hpg : p ≠ gr := fun e => own_at_ne h.box h.own (by decide) (by rw [e]; rfl)
 have off : ∀ {v : Value} {e : TypeId} {size n : Nat} {xs : List Value}, W.ownsRow M e size v n xs → e ≠ 59 → Off D v := fun ho hne g e hd => by
  rcases hD g hd with rfl | hk
  · exact own_ne ho h.own hne g e rfl
  · have := (World.ownsRow.lt ho g e).1; omega
 refine ⟨by rw [hlen]; exact h.box, ⟨RowB.of_owns h.ovs (by simp [newS]) (fun r hr => by obtain ⟨s, _, rfl⟩ := List.mem_map.1 hr; rfl) (Nat.le_refl _), fun _ => off h.ovs (by decide)⟩,
  ⟨RowB.of_owns h.ot (by simp [newS]) (fun r hr => by obtain ⟨s, _, rfl⟩ := List.mem_map.1 hr; rfl) (Nat.le_refl _), fun _ => off h.ot (by decide)⟩, by rw [hlen]; exact h.own, fun i u l hu hl => ?_, fun hd => ?_, hg, fun k hd => ?_⟩
 · have e1 : u = .slice none 0 0 := by have := List.mem_of_getElem? hu; exact (List.mem_replicate.1 this).2
   have e2 : l = [] := by
    have := List.mem_of_getElem? hl
    simp only [newS, List.mem_map] at this
    obtain ⟨_, _, e⟩ := this
    exact e.symm
   rw [e1, e2]
   exact RowD.nil _ _ _
 · rcases hD p hd with e | e
   · exact hpg e
   · have := h.pM; omega
 · rcases hD k hd with rfl | e
   · exact hgr.2
   · have := hgr.1; have := hgr.2; omega
set_option maxRecDepth 100000 in
set_option maxHeartbeats 8000000 in
theorem refNew_any (vf vt : Value) (vs : List Vh) (t : List Rq) (w : World) (hV : Vhs w.heap.size w vf vs) (hT : Rqs w.heap.size w vt t) (hpv : Plain vf) (hpt : Plain vt) (hvl : vs.length ≤ 1000000) (htl : t.length ≤ 1000000) :
 Calls Tryz.prog 12 #[vf, vt] w fun e w' =>
  (newE vs t ≠ 0 → e = .returned (.tuple #[.pointer none, .int .i64 (newE vs t)])) ∧ (newE vs t = 0 → ∃ p gr vf' vt', e = .returned (.tuple #[.pointer (some ⟨p, 0, none⟩), .int .i64 0]) ∧ NewAt w.heap.size w' p gr vf' vt' vs t) ∧ Below w.heap.size w w' := by
 obtain ⟨iv, hiv, hv0, hv1, hv2⟩ := info_parts info_veh
 obtain ⟨iq, hiq, hq0, hq1, hq2⟩ := info_parts info_req
 obtain ⟨xt, Nt, ct, rfl, hNt0, htc1, htc2, -⟩ := hT.opened
 obtain ⟨xf, Nf, cf, rfl, hNf0, hfc1, hfc2, -⟩ := hV.opened
 unfold maxLen at htc2 hfc2
 rw [hNf0] at hvl
 rw [hNt0] at htl
 have hV' := Lib.hid hV
 have hT' := Lib.hid hT
 have hNf := Lib.hid hNf0
 have hNt := Lib.hid hNt0
 have hpv' := Lib.hid hpv
 have hpt' := Lib.hid hpt
 clear hV hT hNf0 hNt0 hpv hpt
 by_cases h1 : Nf < 1
 · have he := Lib.hid (newE_count (vs := vs) (t := t) (.inl (by rw [hNf.out]; exact h1)))
   have h1i : (Nf : Int) < 1 := by omega
   go_enter Tryz.func12, Tryz.ntmps12
   go_wp2
   refine bodyPost_ret (v := .tuple #[.pointer none, .int .i64 11]) (by simp [results, Tryz.results12, go_sem]) rfl ?_
   exact ⟨(new_no he.out (by omega) (A := True)).1, fun h => absurd (he.out.symm.trans h) (by omega), Below.refl _ _⟩
 by_cases h2 : 4 < Nf
 · have he := Lib.hid (newE_count (vs := vs) (t := t) (.inr (by rw [hNf.out]; exact h2)))
   have h1i : ¬ (Nf : Int) < 1 := by omega
   have h2i : (4 : Int) < (Nf : Int) := by omega
   go_enter Tryz.func12, Tryz.ntmps12
   go_wp2
   refine bodyPost_ret (v := .tuple #[.pointer none, .int .i64 11]) (by simp [results, Tryz.results12, go_sem]) rfl ?_
   exact ⟨(new_no he.out (by omega) (A := True)).1, fun h => absurd (he.out.symm.trans h) (by omega), Below.refl _ _⟩
 have h1i : ¬ (Nf : Int) < 1 := by omega
 have h2i : ¬ (4 : Int) < (Nf : Int) := by omega
 have hcnt : Hid (¬ (vs.length < 1 ∨ 4 < vs.length)) := Lib.hid (by rw [hNf.out]; omega)
 have hN1 : 1 ≤ Nf := by omega
 have hN4 : Nf ≤ 4 := by omega
 have hmk := made_stops Nf hvl
 go_enter Tryz.func12, Tryz.ntmps12
 go_wp2
 go_loopw [6] (fun c wr => ∃ k : Nat, k ≤ Nf ∧ c = .int .i64 k ∧ Hid (∀ (j : Nat) v, j < k → vs[j]? = some v → v.chk = 0) ∧ Below w.heap.size w wr)
  (fun c _ => Nf - (intOf c).toNat)
 case atStart => exact ⟨0, Nat.zero_le _, rfl, Lib.hid (fun j v h => by omega), Below.refl _ _⟩
 case round =>
  obtain ⟨k, hk, rfl, hall, hbw⟩ := hrel
  by_cases hlt : k < Nf
  · obtain ⟨v, hv⟩ : ∃ v, vs[k]? = some v := ⟨vs[k]'(by rw [hNf.out]; exact hlt), List.getElem?_eq_getElem _⟩
    obtain ⟨gv, ov, rfl, hgv, q0, q1, q2, q3, q4⟩ := Vhs.at (hV'.out.keep hbw (Nat.le_refl _)) hv
    have hc := Order.refVehicle_any v.hx v.hy v.cp v.st v.en wr
    obtain ⟨C, hC⟩ : ∃ C, veh v.hx v.hy v.cp v.st v.en = C := ⟨_, rfl⟩
    rw [hC] at hc
    have hCv := Lib.hid (show v.chk = C from hC)
    have hv' := Lib.hid hv
    have hkI : (k : Int) < (Nf : Int) := by omega
    have hkN := Lib.hid hlt
    have hbw' := Lib.hid hbw
    have hsz := hbw.size
    clear hC hv hbw
    go_wp2_with fail
    refine hc.mono ?_
    clear hc q0 q1 q2 q3 q4
    rintro e w2 ⟨rfl, hb2⟩
    have hB2 := Lib.hid (hbw'.out.trans (hb2.mono hsz))
    clear hb2
    cases hC0 : (C == 0)
    · have hC1 : (C != 0) = true := by simpa using hC0
      have he := Lib.hid (newE_veh (t := t) hcnt.out (List.mem_of_getElem? hv'.out) (by rw [hCv.out]; simpa using hC0))
      go_wp2
      refine bodyPost_ret (v := .tuple #[.pointer none, .int .i64 2]) (by simp [results, Tryz.results12, go_sem]) rfl ?_
      exact ⟨(new_no he.out (by omega) (A := True)).1, fun h => absurd (he.out.symm.trans h) (by omega), hB2.out⟩
    · have hC1 : (C != 0) = false := by simpa using hC0
      have hal2 : Hid (∀ (j : Nat) v, j < k + 1 → vs[j]? = some v → v.chk = 0) := Lib.hid (fun j v2 hj hv2 => by
       by_cases hjk : j = k
       · subst hjk
         obtain rfl : v = v2 := Option.some.inj (hv'.out.symm.trans hv2)
         rw [hCv.out]; simpa using hC0
       · exact hall.out j v2 (by omega) hv2)
      go_wp2
      go_roundw
      case rel => exact ⟨k + 1, hkN.out, by go_num, hal2, hB2.out⟩
      case measure => simp [intOf]; omega
  · obtain rfl : k = Nf := by omega
    have hvok : Hid (∀ v ∈ vs, v.chk = 0) := Lib.hid (fun v hv => by
     obtain ⟨j, hj, e⟩ := List.getElem_of_mem hv
     exact hall.out j v (by rw [← hNf.out]; exact hj) (by rw [← e]; exact List.getElem?_eq_getElem hj))
    clear hall
    obtain ⟨wo, hwo⟩ : ∃ wo, wo = wr := ⟨_, rfl⟩
    subst hwo
    go_wp2
    go_loopw [7] (fun c wr => ∃ j : Nat, j ≤ Nt ∧ c = .int .i64 j ∧ Hid (∀ (i : Nat) q, i < j → t[i]? = some q → q.chk = 0) ∧ Below w.heap.size w wr)
     (fun c _ => Nt - (intOf c).toNat)
    case atStart => exact ⟨0, Nat.zero_le _, rfl, Lib.hid (fun j v h => by omega), hbw⟩
    case round =>
     clear hbw
     obtain ⟨j, hj, rfl, hall, hbw⟩ := hrel
     by_cases hlj : j < Nt
     · obtain ⟨q, hq⟩ : ∃ q, t[j]? = some q := ⟨t[j]'(by rw [hNt.out]; exact hlj), List.getElem?_eq_getElem _⟩
       obtain ⟨gt, ot, rfl, hgt, d0, d1, d2, d3, d4, d5, d6, d7, d8, d9⟩ := Rqs.at (hT'.out.keep hbw (Nat.le_refl _)) hq
       have hc := Order.refCheck_any q.fx q.fy q.tx q.ty q.pe q.pl q.de q.dl q.ld q.sv wr
       obtain ⟨C, hC⟩ : ∃ C, chk q.fx q.fy q.tx q.ty q.pe q.pl q.de q.dl q.ld q.sv = C := ⟨_, rfl⟩
       rw [hC] at hc
       have hCv := Lib.hid (show q.chk = C from hC)
       have hq' := Lib.hid hq
       have hkI : (j : Int) < (Nt : Int) := by omega
       have hkN := Lib.hid hlj
       have hbw' := Lib.hid hbw
       have hsz := hbw.size
       clear hC hq hbw
       go_wp2_with fail
       refine hc.mono ?_
       clear hc d0 d1 d2 d3 d4 d5 d6 d7 d8 d9
       rintro e w2 ⟨rfl, hb2⟩
       have hB2 := Lib.hid (hbw'.out.trans (hb2.mono hsz))
       clear hb2
       cases hC0 : (C == 0)
       · have hC1 : (C != 0) = true := by simpa using hC0
         have he := Lib.hid (newE_req (vs := vs) hcnt.out (List.mem_of_getElem? hq'.out) (by rw [hCv.out]; simpa using hC0))
         go_wp2
         refine bodyPost_ret (v := .tuple #[.pointer none, .int .i64 2]) (by simp [results, Tryz.results12, go_sem]) rfl ?_
         exact ⟨(new_no he.out (by omega) (A := True)).1, fun h => absurd (he.out.symm.trans h) (by omega), hB2.out⟩
       · have hC1 : (C != 0) = false := by simpa using hC0
         have hal2 : Hid (∀ (i : Nat) q, i < j + 1 → t[i]? = some q → q.chk = 0) := Lib.hid (fun i v2 hj2 hv2 => by
          by_cases hjk : i = j
          · subst hjk
            obtain rfl : q = v2 := Option.some.inj (hq'.out.symm.trans hv2)
            rw [hCv.out]; simpa using hC0
          · exact hall.out i v2 (by omega) hv2)
         go_wp2
         go_roundw
         case rel => exact ⟨j + 1, hkN.out, by go_num, hal2, hB2.out⟩
         case measure => simp [intOf]; omega
     · obtain rfl : j = Nt := by omega
       have htok : Hid (∀ q ∈ t, q.chk = 0) := Lib.hid (fun q hq => by
        obtain ⟨i, hi, e⟩ := List.getElem_of_mem hq
        exact hall.out i q (by rw [← hNt.out]; exact hi) (by rw [← e]; exact List.getElem?_eq_getElem hi))
       have he := Lib.hid (newE_ok hcnt.out hvok.out htok.out)
       have hVw := Lib.hid (hV'.out.keep hbw (Nat.le_refl _))
       have hTw := Lib.hid (hT'.out.keep hbw (Nat.le_refl _))
       have hbw' := Lib.hid hbw
       have hsz := hbw.size
       clear hall hbw hvok htok
       go_upto_region 13 with fail
       refine Sched.wp_region_sched 12 (fun W W' => Below W.heap.size W W') (VK [.of (EmptyAt wr.heap.size 64 5) (fun h hb => EmptyAt.keep h hb), .val (.slice xf k cf), .of (RowAt wr.heap.size 64 5 k (flatV vs)) (fun h hb => RowAt.keep h hb), .of (EmptyAt wr.heap.size 72 10) (fun h hb => EmptyAt.keep h hb), .val (.slice xt j ct), .of (RowAt wr.heap.size 72 10 j (flatQ t)) (fun h hb => RowAt.keep h hb), .val (.slice xf k cf), .val (.int .i64 k), .of (fun v w => (∃ g, v = .slice (some ⟨g, 0, none⟩) k k) ∧ w.ownsRow wr.heap.size 59 1 v k (List.replicate k (.slice none 0 0))) (fun ⟨e, h⟩ hb => ⟨e, owns_below h hb⟩), .of (fun v w => ∃ a ca b cb g, v = .agg #[.slice a k ca, .slice b j cb, .slice (some ⟨g, 0, none⟩) k k] ∧ w.ownsRow wr.heap.size 64 5 (.slice a k ca) k (flatV vs) ∧ w.ownsRow wr.heap.size 72 10 (.slice b j cb) j (flatQ t) ∧ w.ownsRow wr.heap.size 59 1 (.slice (some ⟨g, 0, none⟩) k k) k (List.replicate k (.slice none 0 0))) (fun ⟨a, ca, b, cb, g, e, h1, h2, h3⟩ hb => ⟨a, ca, b, cb, g, e, owns_below h1 hb, owns_below h2 hb, owns_below h3 hb⟩), .of (fun v w => ∃ p, v = .pointer (some ⟨p, 0, none⟩) ∧ wr.heap.size ≤ p ∧ ∃ a ca b cb g, At w p 89 #[.slice a k ca, .slice b j cb, .slice (some ⟨g, 0, none⟩) k k] ∧ w.ownsRow wr.heap.size 64 5 (.slice a k ca) k (flatV vs) ∧ w.ownsRow wr.heap.size 72 10 (.slice b j cb) j (flatQ t) ∧ w.ownsRow wr.heap.size 59 1 (.slice (some ⟨g, 0, none⟩) k k) k (List.replicate k (.slice none 0 0))) (fun ⟨p, e, hp, a, ca, b, cb, g, hA, h1, h2, h3⟩ hb => ⟨p, e, hp, a, ca, b, cb, g, hA.keep hb hA.inside, owns_below h1 hb, owns_below h2 hb, owns_below h3 hb⟩), .of (fun v w => ∃ p, v = .pointer (some ⟨p, 0, none⟩) ∧ wr.heap.size ≤ p ∧ ∃ a ca b cb g, At w p 89 #[.slice a k ca, .slice b j cb, .slice (some ⟨g, 0, none⟩) k k] ∧ w.ownsRow wr.heap.size 64 5 (.slice a k ca) k (flatV vs) ∧ w.ownsRow wr.heap.size 72 10 (.slice b j cb) j (flatQ t) ∧ w.ownsRow wr.heap.size 59 1 (.slice (some ⟨g, 0, none⟩) k k) k (List.replicate k (.slice none 0 0))) (fun ⟨p, e, hp, a, ca, b, cb, g, hA, h1, h2, h3⟩ hb => ⟨p, e, hp, a, ca, b, cb, g, hA.keep hb hA.inside, owns_below h1 hb, owns_below h2 hb, owns_below h3 hb⟩)]) (fun _ _ _ => True) (by kernel_rfl) (by kernel_rfl) (by kernel_rfl) (fun h1 h2 => belowTr h1 h2) (fun h1 h2 => VK.keep h1 h2) (Below.refl _ _).drew (fun _ => trivial) (Sched.StepsA.steps (by kernel_rfl) ?hSA) ?hQA
       case hSA =>
        simp only [List.take_succ_cons, List.take_zero]
        refine ⟨?_, ?_, ?_, ?_, ?_, ?_, ?_, ?_, ?_, ?_, ?_, ?_, trivial⟩
        · intro ys done W aa hE hn hF hD hZ hG hO
          replace hE : Below wr.heap.size wr W := hE
          go_wp2_with fail
          first | exact ⟨_, rfl, (Below.refl _ _).alloc (Nat.le_refl _) _, VK.of rfl ⟨_, rfl, ownsEmptyQ rfl hE.size⟩, trivial⟩ | exact ⟨_, rfl, (Below.refl _ _).alloc (Nat.le_refl _) _, VK.of rfl ⟨_, rfl, ownsEmptyQ rfl hE.size⟩⟩
        · intro ys done W aa hE hn hF hD hZ hG hO
          replace hE : Below wr.heap.size wr W := hE
          have o0 := hO 0 (by kernel_rfl)
          replace o0 : aa.tmps[0]? = some (.slice xf k cf) := o0
          go_wp2_with fail
          first | exact ⟨_, rfl, Below.refl _ _, VK.val rfl rfl, trivial⟩ | exact ⟨_, rfl, Below.refl _ _, VK.val rfl rfl⟩
        · intro ys done W aa hE hn hF hD hZ hG hO
          replace hE : Below wr.heap.size wr W := hE
          have v0 := (hF 0 (by decide) (hD 0 (by kernel_rfl))).get rfl
          have g0 := hG 0 40 rfl (Nat.le_of_ble_eq_true rfl)
          have v1 := (hF 1 (by decide) (hD 1 (by kernel_rfl))).eq rfl
          have g1 := hG 1 41 rfl (Nat.le_of_ble_eq_true rfl)
          rw [v1] at g1
          obtain ⟨ge, hge, hoe⟩ := v0
          rw [hge] at g0 hoe
          have hqW := hV'.out.keep ((Below.trans hbw'.out (hE.mono hsz))) (Nat.le_refl _)
          refine wpList_append_fresh rfl (.tmp 40) (.tmp 41) 28 rfl wr.heap.size 64 iv (.agg #[.int .i64 0, .int .i64 0, .int .i64 0, .int .i64 0, .int .i64 0]) 5 40 Tryz.underlying28 hiv hv0 hv1 hv2 rfl (by decide) ge (show aa.tmps.getD 40 undef = _ by simp [g0]) hoe _ k ⟨_, _, rfl⟩ hpv'.out (flatV vs) (show aa.tmps.getD 41 undef = _ by simp [g1]) (by rw [flatV_length, hNf.out]) (fun ad c e => by simp only [Value.slice.injEq] at e; obtain ⟨rfl, -, rfl⟩ := e; exact vhs_flat hqW) flatV_one (by unfold maxLen; omega) (by omega) hE.size ?_
          intro v' W' hv' hb'
          replace hb' := Lib.hid hb'
          have hv2 : RowAt wr.heap.size 64 5 k (flatV vs) v' W' := hv'
          go_wp2_with fail
          exact ⟨_, rfl, hb'.out, VK.of rfl hv2⟩
        · intro ys done W aa hE hn hF hD hZ hG hO
          replace hE : Below wr.heap.size wr W := hE
          go_wp2_with fail
          first | exact ⟨_, rfl, (Below.refl _ _).alloc (Nat.le_refl _) _, VK.of rfl ⟨_, rfl, ownsEmptyQ rfl hE.size⟩, trivial⟩ | exact ⟨_, rfl, (Below.refl _ _).alloc (Nat.le_refl _) _, VK.of rfl ⟨_, rfl, ownsEmptyQ rfl hE.size⟩⟩
        · intro ys done W aa hE hn hF hD hZ hG hO
          replace hE : Below wr.heap.size wr W := hE
          have o1 := hO 1 (by kernel_rfl)
          replace o1 : aa.tmps[1]? = some (.slice xt j ct) := o1
          go_wp2_with fail
          first | exact ⟨_, rfl, Below.refl _ _, VK.val rfl rfl, trivial⟩ | exact ⟨_, rfl, Below.refl _ _, VK.val rfl rfl⟩
        · intro ys done W aa hE hn hF hD hZ hG hO
          replace hE : Below wr.heap.size wr W := hE
          have v3 := (hF 3 (by decide) (hD 3 (by kernel_rfl))).get rfl
          have g3 := hG 3 43 rfl (Nat.le_of_ble_eq_true rfl)
          have v4 := (hF 4 (by decide) (hD 4 (by kernel_rfl))).eq rfl
          have g4 := hG 4 44 rfl (Nat.le_of_ble_eq_true rfl)
          rw [v4] at g4
          obtain ⟨ge, hge, hoe⟩ := v3
          rw [hge] at g3 hoe
          have hqW := hT'.out.keep ((Below.trans hbw'.out (hE.mono hsz))) (Nat.le_refl _)
          refine wpList_append_fresh rfl (.tmp 43) (.tmp 44) 29 rfl wr.heap.size 72 iq (.agg #[.int .i64 0, .int .i64 0, .int .i64 0, .int .i64 0, .int .i64 0, .int .i64 0, .int .i64 0, .int .i64 0, .int .i64 0, .int .i64 0]) 10 80 Tryz.underlying29 hiq hq0 hq1 hq2 rfl (by decide) ge (show aa.tmps.getD 43 undef = _ by simp [g3]) hoe _ j ⟨_, _, rfl⟩ hpt'.out (flatQ t) (show aa.tmps.getD 44 undef = _ by simp [g4]) (by rw [flatQ_length, hNt.out]) (fun ad c e => by simp only [Value.slice.injEq] at e; obtain ⟨rfl, -, rfl⟩ := e; exact rqs_flat hqW) flatQ_one (by unfold maxLen; omega) (by omega) hE.size ?_
          intro v' W' hv' hb'
          replace hb' := Lib.hid hb'
          have hv2 : RowAt wr.heap.size 72 10 j (flatQ t) v' W' := hv'
          go_wp2_with fail
          exact ⟨_, rfl, hb'.out, VK.of rfl hv2⟩
        · intro ys done W aa hE hn hF hD hZ hG hO
          replace hE : Below wr.heap.size wr W := hE
          have o0 := hO 0 (by kernel_rfl)
          replace o0 : aa.tmps[0]? = some (.slice xf k cf) := o0
          go_wp2_with fail
          first | exact ⟨_, rfl, Below.refl _ _, VK.val rfl rfl, trivial⟩ | exact ⟨_, rfl, Below.refl _ _, VK.val rfl rfl⟩
        · intro ys done W aa hE hn hF hD hZ hG hO
          replace hE : Below wr.heap.size wr W := hE
          have v6 := (hF 6 (by decide) (hD 6 (by kernel_rfl))).eq rfl
          have g6 := hG 6 46 rfl (Nat.le_of_ble_eq_true rfl)
          rw [v6] at g6
          go_wp2_with fail
          first | exact ⟨_, rfl, Below.refl _ _, VK.val rfl rfl, trivial⟩ | exact ⟨_, rfl, Below.refl _ _, VK.val rfl rfl⟩
        · intro ys done W aa hE hn hF hD hZ hG hO
          replace hE : Below wr.heap.size wr W := hE
          have v7 := (hF 7 (by decide) (hD 7 (by kernel_rfl))).eq rfl
          have g7 := hG 7 47 rfl (Nat.le_of_ble_eq_true rfl)
          rw [v7] at g7
          have hown8 := Lib.hid (by have h8 := World.ownsRow_lit (base := wr.heap.size) (size := 1) (e := 59) W (madeCells (Value.slice none 0 0).cells (k * 1)) k hE.size (by unfold maxLen; omega) (by rw [size_madeCells]); rw [cells_nil] at h8; exact h8 : (W.alloc (.cells (madeCells (Value.slice none 0 0).cells (k * 1)) 59)).ownsRow wr.heap.size 59 1 (.slice (some ⟨W.heap.size, 0, none⟩) k k) k (List.replicate k (.slice none 0 0)))
          go_wp2_with fail
          first | exact ⟨_, rfl, (Below.refl _ _).alloc (Nat.le_refl _) _, VK.of rfl (by exact ⟨⟨_, rfl⟩, by have h8 := hown8.out; rw [Nat.mul_one] at h8; exact h8⟩), trivial⟩ | exact ⟨_, rfl, (Below.refl _ _).alloc (Nat.le_refl _) _, VK.of rfl (by exact ⟨⟨_, rfl⟩, by have h8 := hown8.out; rw [Nat.mul_one] at h8; exact h8⟩)⟩
        · intro ys done W aa hE hn hF hD hZ hG hO
          replace hE : Below wr.heap.size wr W := hE
          have v2 := (hF 2 (by decide) (hD 2 (by kernel_rfl))).get rfl
          have g2 := hG 2 42 rfl (Nat.le_of_ble_eq_true rfl)
          have v5 := (hF 5 (by decide) (hD 5 (by kernel_rfl))).get rfl
          have g5 := hG 5 45 rfl (Nat.le_of_ble_eq_true rfl)
          have v8 := (hF 8 (by decide) (hD 8 (by kernel_rfl))).get rfl
          have g8 := hG 8 48 rfl (Nat.le_of_ble_eq_true rfl)
          obtain ⟨a2, ca2, e2, -, -⟩ := owns_slice v2
          obtain ⟨b5, cb5, e5, -, -⟩ := owns_slice v5
          obtain ⟨⟨g9, e8⟩, v8⟩ := v8
          rw [e2] at g2 v2
          rw [e5] at g5 v5
          rw [e8] at g8 v8
          replace v2 := Lib.hid v2
          replace v5 := Lib.hid v5
          replace v8 := Lib.hid v8
          go_wp2_with fail
          first | exact ⟨_, rfl, Below.refl _ _, VK.of rfl (by exact ⟨a2, ca2, b5, cb5, g9, rfl, v2.out, v5.out, v8.out⟩), trivial⟩ | exact ⟨_, rfl, Below.refl _ _, VK.of rfl (by exact ⟨a2, ca2, b5, cb5, g9, rfl, v2.out, v5.out, v8.out⟩)⟩
        · intro ys done W aa hE hn hF hD hZ hG hO
          replace hE : Below wr.heap.size wr W := hE
          have v9 := (hF 9 (by decide) (hD 9 (by kernel_rfl))).get rfl
          have g9 := hG 9 49 rfl (Nat.le_of_ble_eq_true rfl)
          obtain ⟨a2, ca2, b5, cb5, gg, e9, o1, o2, o3⟩ := v9
          rw [e9] at g9
          replace o1 := Lib.hid o1
          replace o2 := Lib.hid o2
          replace o3 := Lib.hid o3
          have hsW := hE.size
          go_wp2_with fail
          first | exact ⟨_, rfl, (Below.refl _ _).alloc (Nat.le_refl _) _, VK.of rfl (by exact ⟨W.heap.size, rfl, hsW, a2, ca2, b5, cb5, gg, At.new _ _ _, o1.out.alloc _, o2.out.alloc _, o3.out.alloc _⟩), trivial⟩ | exact ⟨_, rfl, (Below.refl _ _).alloc (Nat.le_refl _) _, VK.of rfl (by exact ⟨W.heap.size, rfl, hsW, a2, ca2, b5, cb5, gg, At.new _ _ _, o1.out.alloc _, o2.out.alloc _, o3.out.alloc _⟩)⟩
        · intro ys done W aa hE hn hF hD hZ hG hO
          replace hE : Below wr.heap.size wr W := hE
          have v10 := (hF 10 (by decide) (hD 10 (by kernel_rfl))).get rfl
          have g10 := hG 10 50 rfl (Nat.le_of_ble_eq_true rfl)
          go_wp2_with fail
          first | exact ⟨_, rfl, Below.refl _ _, VK.of rfl v10, trivial⟩ | exact ⟨_, rfl, Below.refl _ _, VK.of rfl v10⟩
       case hQA =>
        intro ys w6 hE hF _
        replace hE : Below wr.heap.size wr w6 := hE
        obtain ⟨p, e11, hp, a, ca, b, cb, g, hA, o1, o2, o3⟩ := (hF 11 (by decide)).get rfl
        simp only [List.take_succ_cons, List.take_zero, List.drop_succ_cons, List.drop_zero, Sched.fill, e11]
        clear hF e11
        go_simp
        have hfin : Hid (NewAt w.heap.size w6 p g (.slice a k ca) (.slice b j cb) vs t) := Lib.hid (by
         refine ⟨by rw [hNf.out]; exact hA, by omega, by rw [hNf.out]; exact owns_more o1 hsz, by rw [hNt.out]; exact owns_more o2 hsz, by rw [hNf.out]; exact owns_more o3 hsz⟩)
        have hB6 := Lib.hid (hbw'.out.trans (hE.mono hsz))
        clear hA o1 o2 o3 hE
        go_wp2
        refine bodyPost_ret (v := .tuple #[.pointer (some ⟨p, 0, none⟩), .int .i64 0]) (by simp [results, Tryz.results12, go_sem]) rfl ?_
        exact ⟨fun h => absurd he.out h, fun _ => ⟨p, g, _, _, rfl, hfin.out⟩, hB6.out⟩
end Go.Proofs.YtlbghdiebjldjaaGreatDoor.Plan
namespace Go.Proofs.YtlbghdiebjldjaaGreatDoor.Plan
open Go.RowKit Go.Proofs.YtlbghdiebjldjaaGreatDoor.Mem
set_option linter.unusedVariables false
def VV (ks : List (Option Value)) (i : Nat) (v : Value) (_ : World) : Prop := ∀ u, ks[i]? = some (some u) → v = u
theorem VV.keep {ks : List (Option Value)} {i : Nat} {v : Value} {W V : World} (h : VV ks i v W) : VV ks i v V := h
theorem VV.eq {ks : List (Option Value)} {i : Nat} {v u : Value} {W : World} (h : VV ks i v W) (e : ks[i]? = some (some u)) : v = u := h u e
theorem VV.val {ks : List (Option Value)} {i : Nat} {v u : Value} {W : World} (e : ks[i]? = some (some u)) (h : v = u) : VV ks i v W := fun u' h' => by rw [e] at h'; cases h'; exact h
theorem VV.any {ks : List (Option Value)} {i : Nat} {v : Value} {W : World} (e : ks[i]? = some none) : VV ks i v W := fun u' h' => by rw [e] at h'; cases h'
theorem mark_ne {d : Nat → Bool} {k i : Nat} (h : i ≠ k) : Sched.mark d k i = d i := by simp [Sched.mark, h]
theorem mark_eq {d : Nat → Bool} {k : Nat} : Sched.mark d k k = true := by simp [Sched.mark]
theorem upd_ne {ys : Nat → Value} {k i : Nat} {v : Value} (h : i ≠ k) : Sched.upd ys k v i = ys i := by simp [Sched.upd, h]
theorem upd_eq {ys : Nat → Value} {k : Nat} {v : Value} : Sched.upd ys k v k = v := by simp [Sched.upd]
def bptr (g : Nat) : Value := .pointer (some ⟨g, 0, none⟩)
structure ZP (a s M : Nat) (T : TypeId) (x0 x1 x2 : Value) (done : Nat → Bool) (ys : Nat → Value) (W : World) : Prop where
 o : done s = true → done a = true
 p : done a = true → ∃ (g : Nat) (c0 c1 c2 : Value), ys a = bptr g ∧ M ≤ g ∧ At W g T #[c0, c1, c2] ∧ (done s = true → c0 = x0 ∧ c1 = x1 ∧ c2 = x2)
section
variable {a s M : Nat} {T : TypeId} {x0 x1 x2 : Value} {done : Nat → Bool} {ys : Nat → Value} {W W' : World}
theorem ZP.start (ys : Nat → Value) (W : World) : ZP a s M T x0 x1 x2 (fun _ => false) ys W := ⟨fun h => (by cases h), fun h => (by cases h)⟩
theorem ZP.light {k : Nat} {v : Value} (h : ZP a s M T x0 x1 x2 done ys W) (hk : a ≠ k) (hs : s ≠ k) (hb : Below W.heap.size W W') : ZP a s M T x0 x1 x2 (Sched.mark done k) (Sched.upd ys k v) W' := by
 refine ⟨?_, ?_⟩
 · rw [mark_ne hk, mark_ne hs]; exact h.o
 · rw [mark_ne hk, mark_ne hs, upd_ne hk]
   intro h1
   obtain ⟨g, c0, c1, c2, h2, h3, h4, h5⟩ := h.p h1
   exact ⟨g, c0, c1, c2, h2, h3, h4.keep hb h4.inside, h5⟩
theorem ZP.new {z0 z1 z2 : Value} (h : ZP a s M T x0 x1 x2 done ys W) (hn : done a = false) (hs : s ≠ a) (hM : M ≤ W.heap.size) : ZP a s M T x0 x1 x2 (Sched.mark done a) (Sched.upd ys a (bptr W.heap.size)) (W.alloc (.cells #[z0, z1, z2] T)) := by
 refine ⟨fun _ => mark_eq, fun _ => ⟨W.heap.size, z0, z1, z2, upd_eq, hM, At.new _ _ _, fun h8 => ?_⟩⟩
 rw [mark_ne hs] at h8
 have := h.o h8
 rw [hn] at this; cases this
theorem ZP.put {g : Nat} {c0 c1 c2 v : Value} (h : ZP a s M T x0 x1 x2 done ys W) (h6 : done a = true) (hs : a ≠ s) (e : ys a = bptr g) (hN : M ≤ g) (hA : At W g T #[c0, c1, c2]) :
 ZP a s M T x0 x1 x2 (Sched.mark done s) (Sched.upd ys s v) (((W.setCell ⟨g, 0, none⟩ x0).setCell ⟨g, 1, none⟩ x1).setCell ⟨g, 2, none⟩ x2) := by
 refine ⟨fun _ => by rw [mark_ne hs]; exact h6, fun _ => ⟨g, x0, x1, x2, by rw [upd_ne hs]; exact e, hN, by simpa using ((hA.put 0 x0).put 1 x1).put 2 x2, fun _ => ⟨rfl, rfl, rfl⟩⟩⟩
theorem ZP.get (h : ZP a s M T x0 x1 x2 done ys W) (h6 : done s = true) : ∃ g, ys a = bptr g ∧ M ≤ g ∧ At W g T #[x0, x1, x2] := by
 obtain ⟨g, c0, c1, c2, h2, h3, h4, h5⟩ := h.p (h.o h6)
 obtain ⟨rfl, rfl, rfl⟩ := h5 h6
 exact ⟨g, h2, h3, h4⟩
end
inductive KnC (G : Nat → Prop) where
 | val (u : Value)
 | of (p : Value → World → Prop) (hp : ∀ {v w w'}, p v w → Chg G w w' → p v w')
 | any
def KnC.holds {G : Nat → Prop} : KnC G → Value → World → Prop
 | .val u, v, _ => v = u
 | .of p _, v, w => p v w
 | .any, _, _ => True
def VC {G : Nat → Prop} (ks : List (KnC G)) (i : Nat) (v : Value) (w : World) : Prop := ∀ k, ks[i]? = some k → k.holds v w
section
variable {G : Nat → Prop} {ks : List (KnC G)} {i : Nat} {u v : Value} {w w' : World}
theorem VC.keep (h : VC ks i v w) (hb : Chg G w w') : VC ks i v w' := fun k hk => by
 have h1 := h k hk
 cases k with
 | val u => exact h1
 | of p hp => exact hp h1 hb
 | any => trivial
theorem VC.val (h : ks[i]? = some (.val u)) (e : v = u) : VC ks i v w := fun k hk => by rw [h] at hk; cases hk; exact e
theorem VC.of {p : Value → World → Prop} {hp : ∀ {v w w'}, p v w → Chg G w w' → p v w'} (h : ks[i]? = some (.of p hp)) (e : p v w) : VC ks i v w := fun k hk => by rw [h] at hk; cases hk; exact e
theorem VC.any (h : ks[i]? = some .any) : VC ks i v w := fun k hk => by rw [h] at hk; cases hk; trivial
theorem VC.eq (hV : VC ks i v w) (h : ks[i]? = some (.val u)) : v = u := hV _ h
theorem VC.get {p : Value → World → Prop} {hp : ∀ {v w w'}, p v w → Chg G w w' → p v w'} (hV : VC ks i v w) (h : ks[i]? = some (.of p hp)) : p v w := hV _ h
end
structure ZQ (s n : Nat) (P0 P1 : World → Prop) (done : Nat → Bool) (W : World) : Prop where
 o : done s = true → ∀ i, i < n → done i = true
 a : done s = false → P0 W
 b : done s = true → P1 W
section
variable {s n : Nat} {P0 P1 : World → Prop} {done : Nat → Bool} {W W' : World}
theorem ZQ.start (h : P0 W) : ZQ s n P0 P1 (fun _ => false) W := ⟨fun h => (by cases h), fun _ => h, fun h => (by cases h)⟩
theorem ZQ.light {k : Nat} (h : ZQ s n P0 P1 done W) (hs : s ≠ k) (h0 : P0 W → P0 W') (h1 : P1 W → P1 W') : ZQ s n P0 P1 (Sched.mark done k) W' := by
 refine ⟨?_, ?_, ?_⟩
 · rw [mark_ne hs]
   intro hd i hi
   have := h.o hd i hi
   unfold Sched.mark
   split
   · rfl
   · exact this
 · rw [mark_ne hs]; exact fun hd => h0 (h.a hd)
 · rw [mark_ne hs]; exact fun hd => h1 (h.b hd)
theorem ZQ.put (hs : n ≤ s) (hall : ∀ i, i < n → done i = true) (h : P1 W') : ZQ s n P0 P1 (Sched.mark done s) W' := by
 refine ⟨fun _ i hi => ?_, fun hd => ?_, fun _ => h⟩
 · rw [mark_ne (by omega)]; exact hall i hi
 · rw [mark_eq] at hd; cases hd
theorem ZQ.fst {k : Nat} (h : ZQ s n P0 P1 done W) (hk : k < n) (hn : done k = false) : P0 W := h.a (by
 cases hd : done s
 · rfl
 · have := h.o hd k hk; rw [hn] at this; cases this)
end
end Go.Proofs.YtlbghdiebjldjaaGreatDoor.Plan

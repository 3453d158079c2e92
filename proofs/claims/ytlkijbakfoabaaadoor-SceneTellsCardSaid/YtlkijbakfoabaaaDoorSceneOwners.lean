/-
  Contract of package scene's Owners.
-/
import Derived.Test.YtlkijbakfoabaaaDoorSceneCars
namespace Go.Proofs.YtlkijbakfoabaaaDoor.Scene
open Go.RowKit Go.Proofs.YtlkijbakfoabaaaDoor.Mem
set_option linter.unusedVariables false

theorem info_int : (Tryd.prog.info? 3).map (fun i => (i.zero, i.size, i.bytes)) = some (some (.int .i64 0), 1, 8) := by kernel_rfl

theorem Turned.keepB {b B : Nat} {w x y : World} (h : Below B w x) (hT : Turned b x y) (hb : B ≤ b) (hw : B ≤ w.heap.size) : Below B w y :=
  h.trans (hT.below hb (Nat.le_trans hw h.size))

theorem owner_of (s : Sc) (r : Nat) (hr : r < s.reqs.length) : ofV (mapP s.reqs.length (pairsL 0 s.cars)) r = ownerV s r := by
  unfold ofV ownerV mapP
  rw [if_pos]
  rw [Order.btwB_iff]
  omega

/-- A row of one cell each that was stored into. -/
theorem owns_set {xs : List Value} {k n : Nat} {f : Nat → Value} (hl : xs.length = n) (hk : k < n) (h : ∀ j, j < k → xs[j]? = some (f j)) : ∀ j, j < k + 1 → (xs.set k (f k))[j]? = some (f j) := by
  intro j hj
  by_cases e : j = k
  · subst e
    rw [List.getElem?_set_self (by omega)]
  · rw [List.getElem?_set_ne (by omega)]
    exact h j (by omega)

theorem row_of_owns {W : World} {base g n cap : Nat} {t : TypeId} {xs : List Value} {f : Nat → Int} (h : W.ownsRow base t 1 (.slice (some ⟨g, 0, none⟩) n cap) n xs) (hf : ∀ j, j < n → xs[j]? = some (.int .i64 (f j))) :
    RowB W.heap.size W (.slice (some ⟨g, 0, none⟩) n cap) 1 (((List.range n).map f).map inV) := by
  have hlt : g < W.heap.size := by
    rcases h.2 with ⟨h1, _⟩ | ⟨g', cap', cur, h1, _, hg, _⟩
    · cases h1
    · cases h1
      exact (Array.getElem?_eq_some_iff.1 hg).1
  have hcap : n ≤ cap ∧ cap ≤ maxLen := by
    rcases h.2 with ⟨h1, _⟩ | ⟨g', cap', cur, h1, _, _, h2, h3, _⟩
    · cases h1
    · cases h1
      exact ⟨h2, h3⟩
  refine ⟨some ⟨g, 0, none⟩, cap, by simp, by simpa using hcap.1, hcap.2, fun j r hj => ?_⟩
  refine ⟨g, 0, rfl, hlt, fun k u hk => ?_⟩
  have hj' : j < n := by
    have := (List.getElem?_eq_some_iff.1 hj).1
    simpa using this
  obtain rfl : r = inV (f j) := by
    have := hj
    simp [hj'] at this
    exact this.symm
  obtain ⟨rfl, rfl⟩ : k = 0 ∧ u = .int .i64 (f j) := by
    cases k with
    | zero => simp [inV] at hk; exact ⟨rfl, hk.symm⟩
    | succ k => simp [inV] at hk
  have := h.cellAt j (by omega)
  simpa using this.trans (hf j hj')

set_option maxRecDepth 100000 in
set_option maxHeartbeats 4000000 in
theorem Owners_any (s : Sc) (hfair : Fair s) (vR vC vL vD : Value) (us : List (Value × Value)) (cm rv sch : Int) (hrq : s.reqs.length ≤ 1000000) (w : World) (h : SceneAt w.heap.size w vR vC vL vD us s) :
    Calls Tryd.prog 14 #[.agg #[vR, vC, vL, .int .i64 cm, .int .i64 rv, .int .i64 sch, vD]] w fun e w' =>
      (∃ u, e = .returned u ∧ RowB w'.heap.size w' u 1 ((ownersL s).map inV)) ∧ Below w.heap.size w w' := by
  have hRV := h.reqs
  have hCV := h.cars.row
  have hus := h.cars.len
  have hLV := h.lots
  have hDV := h.draws
  obtain ⟨xR, capR, rfl, hlenR, hcapR, _⟩ := hRV
  obtain ⟨xC, capC, rfl, hlenC, hcapC, _⟩ := hCV
  obtain ⟨xL, capL, rfl, _, _, _⟩ := hLV
  obtain ⟨xD, capD, rfl, _, _⟩ := hDV
  simp only [List.length_map, hus] at hlenR hlenC h ⊢
  unfold maxLen at hcapR hcapC
  obtain ⟨i0, hi, hz0, hz1, hz2⟩ := info_parts info_int
  have h' := Lib.hid h
  have hfair' := Lib.hid hfair
  clear h hfair hus
  obtain ⟨W1, hW1⟩ : ∃ W1, (w.alloc (.cells #[.slice xR s.reqs.length capR, .slice xC s.cars.length capC, .slice xL s.lots.length capL, .int .i64 cm, .int .i64 rv, .int .i64 sch, .slice xD s.draws capD] 33)).alloc (.map #[] 0) = W1 := ⟨_, rfl⟩
  have hP : At W1 w.heap.size 33 #[.slice xR s.reqs.length capR, .slice xC s.cars.length capC, .slice xL s.lots.length capL, .int .i64 cm, .int .i64 rv, .int .i64 sch, .slice xD s.draws capD] := by rw [← hW1]; exact (At.new _ _ _).alloc _
  have hM : MapAt W1 (w.heap.size + 1) 0 (mapP s.reqs.length []) := by
    rw [← hW1]
    have := MapAt.made (w.alloc (.cells #[.slice xR s.reqs.length capR, .slice xC s.cars.length capC, .slice xL s.lots.length capL, .int .i64 cm, .int .i64 rv, .int .i64 sch, .slice xD s.draws capD] 33))
    rw [World.size_alloc] at this
    refine this.funs fun r => ?_
    unfold mapP whoP
    split <;> rfl
  have hb1 : Below w.heap.size w W1 := by rw [← hW1]; exact ((Below.refl _ _).alloc (Nat.le_refl _) _).alloc (by simp) _
  have hs1 : w.heap.size + 2 ≤ W1.heap.size := by rw [← hW1]; simp
  have hW1' := Lib.hid hW1
  clear hW1
  have hmm := @run_makeMap Tryd.prog
  have p1 := hP.cell 1
  simp at p1
  go_enter Tryd.func14, Tryd.ntmps14
  go_wp2_with fail
  rw [hW1'.out]
  go_loopw [14] (fun i wr => ∃ (k : Nat) (rest : List Cr) (ps : List (Int × Int)), i = .int .i64 k ∧ pairsL 0 s.cars = ps ++ pairsL k rest ∧ s.cars.drop k = rest ∧ w.heap.size + 2 ≤ wr.heap.size ∧ Below w.heap.size w wr ∧
      At wr w.heap.size 33 #[.slice xR s.reqs.length capR, .slice xC s.cars.length capC, .slice xL s.lots.length capL, .int .i64 cm, .int .i64 rv, .int .i64 sch, .slice xD s.draws capD] ∧ MapAt wr (w.heap.size + 1) ps.length (mapP s.reqs.length ps) ∧ ∀ p ∈ ps, 0 ≤ p.2)
    (fun i _ => s.cars.length - (intOf i).toNat)
  case atStart => exact ⟨0, s.cars, [], rfl, rfl, rfl, hs1, hb1, hP, hM, fun y hy => by cases hy⟩
  case round =>
    obtain ⟨k, rest, ps, rfl, hpp, hd, hs, hb, hPk, hMk, hps⟩ := hrel
    clear hP hM p1 hs1 hb1
    cases rest with
    | nil =>
      have hk := drop_nil hd
      have hk2 : ¬ (k < s.cars.length) := by omega
      obtain rfl : ps = pairsL 0 s.cars := by rw [hpp]; simp [pairsL]
      have hps' := Lib.hid hps
      have v0 := hPk.cell 0
      simp at v0
      clear hd hpp hk hps
      go_wp2_with (at_make; refine wpList_make_full _ rfl _ _ 46 rfl w.heap.size 3 i0 (.int .i64 0) 1 Tryd.underlying46 hi hz0 hz1 .i64 .i64 _ _ s.reqs.length rfl rfl rfl rfl (by rw [hz2]; omega) (by unfold maxLen; omega) (by omega) ?_; intro w3 hown3 hgrow3)
      have hx0 := hown3.1
      have hb3 : Below w.heap.size w w3 := hb.grown hgrow3 hb.size (fun k e => by cases e)
      have hM3 : MapAt w3 (w.heap.size + 1) (pairsL 0 s.cars).length (mapP s.reqs.length (pairsL 0 s.cars)) := hMk.same (hgrow3.block _ hMk.inside (by simp))
      have hg3 : w.heap.size + 2 ≤ wr.heap.size := hs
      generalize (madeCells (Value.int .i64 0).cells (s.reqs.length * 1)).toList = xs0 at *
      obtain ⟨gn, hgn⟩ : ∃ gn, gn = wr.heap.size := ⟨_, rfl⟩
      rw [← hgn] at hown3 hg3 ⊢
      clear hgn hgrow3 hMk hPk hb hs v0
      have hown3' := Lib.hid hown3
      have hx0' := Lib.hid hx0
      clear hown3 hx0
      go_loopw [39] (fun i wr => ∃ (k : Nat) (xs : List Value), i = .int .i64 k ∧ k ≤ s.reqs.length ∧ wr.ownsRow w.heap.size 3 1 (.slice (some ⟨gn, 0, none⟩) s.reqs.length s.reqs.length) s.reqs.length xs ∧ (∀ j, j < k → xs[j]? = some (.int .i64 (ownerV s (j : Nat)))) ∧
          Below w.heap.size w wr ∧ MapAt wr (w.heap.size + 1) (pairsL 0 s.cars).length (mapP s.reqs.length (pairsL 0 s.cars)))
        (fun i _ => s.reqs.length - (intOf i).toNat)
      case atStart => exact ⟨0, xs0, rfl, Nat.zero_le _, hown3'.out, fun j hj => by omega, hb3, hM3⟩
      case round =>
        obtain ⟨k, xs, rfl, hk, hown, hxs, hb, hMk⟩ := hrel
        clear hb3 hM3 hown3' hx0'
        by_cases hlt : k < s.reqs.length
        · have hof := owner_of s k hlt
          have hxs' := Lib.hid hxs
          have hb' := Lib.hid hb
          have hst := Lib.hid (hown.stored k (.int .i64 (ownerV s k)))
          have hxl := Lib.hid hown.1
          have hc := hown.cellAt k (by omega)
          have hf := hown.frozenAt k
          obtain ⟨u, hu⟩ : ∃ u, xs[k]? = some u := ⟨xs[k]'(by have := hown.1; omega), List.getElem?_eq_getElem _⟩
          rw [hu] at hc
          have hown' := Lib.hid hown
          clear hxs hb hu hown
          go_wp2_with fail
          refine (of_any _ (w.heap.size + 1) (pairsL 0 s.cars).length _ k ⟨by omega, by omega⟩ hMk).mono ?_
          rintro e w5 ⟨rfl, rfl⟩
          rw [hof]
          go_wp2
          go_roundw
          case rel =>
            refine ⟨k + 1, _, by go_num, hlt, hst.out.1, owns_set (by have := hxl.out; omega) hlt hxs'.out, hb'.out.setCell (by show w.heap.size ≤ gn; omega) _, hMk.far (by show w.heap.size + 1 ≠ gn; omega) _⟩
          case measure => simp [intOf]; omega
        · obtain rfl : k = s.reqs.length := by omega
          have hr := Lib.hid (row_of_owns hown hxs)
          clear hown hxs
          go_wp2
          go_ret
          exact ⟨⟨_, rfl, hr.out⟩, hb⟩
    | cons q rest =>
      obtain ⟨wo, rfl⟩ : ∃ wo, wo = wr := ⟨_, rfl⟩
      obtain ⟨hlt, hq, hd2⟩ := drop_cons hd
      have hcs := (h'.out.keep hb (Nat.le_refl _)).cars
      obtain ⟨xF, capF, xO, capO, huk, _, _, hlenO, hcapO, hk3⟩ := hcs.get hq
      obtain ⟨g, o, rfl, hgB, hc⟩ := RowB.row hcs.row hk3
      unfold maxLen at hcapO
      have c0 := hc 0 _ rfl
      have c1 := hc 1 _ rfl
      clear hc hk3 hcs
      simp at c0 c1
      have huk' := Lib.hid huk
      have hq' := Lib.hid hq
      have hpp' := Lib.hid (hpp.trans (by rw [pairsL_cons]))
      have hd' := Lib.hid hd2
      have hps' := Lib.hid hps
      clear hd hd2 hq hpp hps huk
      have hPV := hPk.alloc (.cells #[.slice xF q.fleet.length capF, .slice xO q.own.length capO] 53)
      have hMV := hMk.alloc (.cells #[.slice xF q.fleet.length capF, .slice xO q.own.length capO] 53)
      have hbV := hb.alloc hb.size (.cells #[.slice xF q.fleet.length capF, .slice xO q.own.length capO] 53)
      have hsV : w.heap.size + 2 ≤ (wo.alloc (.cells #[.slice xF q.fleet.length capF, .slice xO q.own.length capO] 53)).heap.size := by simp; omega
      clear hPk hMk hb
      go_wp2_with fail
      go_loopw [22] (fun i w3 => ∃ (j : Nat) (restO : List Int) (ps2 : List (Int × Int)), i = .int .i64 j ∧ q.own.drop j = restO ∧
          ps2 ++ restO.map (fun r => (r, (k : Int))) = ps ++ pairsC k q ∧ w.heap.size + 2 ≤ w3.heap.size ∧ Below w.heap.size w w3 ∧
          At w3 w.heap.size 33 #[.slice xR s.reqs.length capR, .slice (some ⟨g, o, none⟩) s.cars.length capC, .slice xL s.lots.length capL, .int .i64 cm, .int .i64 rv, .int .i64 sch, .slice xD s.draws capD] ∧ MapAt w3 (w.heap.size + 1) ps2.length (mapP s.reqs.length ps2) ∧ ∀ p ∈ ps2, 0 ≤ p.2)
        (fun i _ => q.own.length - (intOf i).toNat)
      case atStart => exact ⟨0, q.own, ps, rfl, rfl, rfl, hsV, hbV, hPV, hMV, hps'.out⟩
      case round =>
        clear hbV hPV hMV hsV c0 c1 hps' hs
        obtain ⟨j2, restO, ps2, rfl, hd, hps2, hs, hb, hPk, hMk, hpos⟩ := hrel
        cases restO with
        | nil =>
          have hk := drop_nil hd
          have hk2 : ¬ (j2 < q.own.length) := by omega
          obtain rfl : ps2 = ps ++ pairsC k q := by simpa using hps2
          have hpos' := Lib.hid hpos
          clear hd hk hps2 hpos
          go_wp2
          go_roundw
          case rel => exact ⟨k + 1, rest, ps ++ pairsC k q, by go_num, by rw [hpp'.out, List.append_assoc], hd'.out, hs, hb, hPk, hMk, hpos'.out⟩
          case measure => simp [intOf]; omega
        | cons r restO =>
          obtain ⟨hlt2, hq2, hd3⟩ := drop_cons hd
          obtain ⟨gF, oF, rfl, hgF, hc⟩ := RowB.row ((h'.out.keep hb (Nat.le_refl _)).cars.car k _ q huk'.out hq'.out).own (j := j2) (r := inV r) (by rw [List.getElem?_map, hq2]; rfl)
          have c0 := hc 0 _ rfl
          clear hc
          simp at c0
          have hrI : I64 r := hfair'.out.owns q (List.mem_of_getElem? hq'.out) r (List.mem_of_getElem? hq2)
          have hfew : ps2.length < 4294967296 := by
            have h1 := hfair'.out.few
            rw [hpp'.out] at h1
            have h2 := congrArg List.length hps2
            simp only [List.length_append, List.length_map, List.length_cons] at h1 h2
            omega
          have hcn := hfair'.out.cnum
          have hd4 := Lib.hid hd3
          have hps3 := Lib.hid hps2
          have hpos' := Lib.hid hpos
          have v0 := hPk.cell 0
          have v1 := hPk.cell 1
          have v2 := hPk.cell 2
          have v3 := hPk.cell 3
          have v4 := hPk.cell 4
          have v5 := hPk.cell 5
          have v6 := hPk.cell 6
          simp at v0 v1 v2 v3 v4 v5 v6
          clear hd hd3 hq2 hps2 hpos
          go_wp2_with fail
          refine (claim_p _ (w.heap.size + 1) ps2.length ps2 xR s.reqs.length capR _ _ _ _ _ _ r k hrI ⟨by omega, by omega⟩ (by omega) hfew hpos'.out hMk).mono ?_
          rintro e w4 ⟨rfl, hM3, hT3⟩
          have hb3 := Turned.keepB hb hT3 (Nat.le_succ _) (Nat.le_refl _)
          have hP3 := At.turned hPk hT3 (by omega)
          have hs3 : w.heap.size + 2 ≤ w4.heap.size := Nat.le_trans hs hT3.size
          clear hT3 hMk hPk hb c0 v0 v1 v2 v3 v4 v5 v6 hs
          go_wp2
          go_roundw
          case rel =>
            refine ⟨j2 + 1, restO, ps2 ++ [(r, (k : Int))], by go_num, hd4.out, ?_, hs3, hb3, hP3, by simpa using hM3, pos_snoc hpos'.out _ (by omega)⟩
            rw [← hps3.out]; simp
          case measure => simp [intOf]; omega

end Go.Proofs.YtlkijbakfoabaaaDoor.Scene

/-
  SchedGoes returns true, whatever the draft and memory are. No condition.
-/
import Derived.Test.YtphpkcndaifoiaaWhenWorks2
import Derived.Test.YtphpkcndaifoiaaWhenParts
import Derived.Test.YtphpkcndaifoiaaWhenOpen
import Derived.Test.YtphpkcndaifoiaaWhenSteps
import Derived.IntWalk
namespace Go.Proofs.Ytphpkcndaifoiaa.schedGoes
open Go.ChangeShapes Go.WideShapes Go.ChangeAt Go.RowKit Go.Sort Go.Proofs.Ytphpkcndaifoiaa.Mem Go.Proofs.Ytphpkcndaifoiaa.Route Go.Proofs.Ytphpkcndaifoiaa.When Go.Proofs.Ytphpkcndaifoiaa.Steps
set_option linter.unusedVariables false

/-- What stays from the head of the loop on. -/
structure GoesAt (w0 : World) (n7 : Nat) (v : Vh) (vo vr va : Value) (l : List (Int × Int)) (t : List Rq) (R : List Tm) (W : World) : Prop where
  veh : At W n7 30 #[.int .i64 v.hx, .int .i64 v.hy, .int .i64 v.cp, .int .i64 v.st, .int .i64 v.en]
  row : Row W.heap.size W vo l
  rqs : Rqs W.heap.size W vr t
  tms : Tms W.heap.size W va R
  below : Below w0.heap.size w0 W
theorem GoesAt.on {w0 : World} {n7 : Nat} {v : Vh} {vo vr va : Value} {l : List (Int × Int)} {t : List Rq} {R : List Tm} {W W' : World} (h : GoesAt w0 n7 v vo vr va l t R W) (hb : Below W.heap.size W W') : GoesAt w0 n7 v vo vr va l t R W' :=
  ⟨h.veh.keep hb h.veh.inside, h.row.on hb, h.rqs.on hb, h.tms.on hb, h.below.trans (hb.mono h.below.size)⟩
theorem distP (ax ay bx by_ D : Int) (hD : Place.distV (ax, ay) (bx, by_) = D) (w : World) : Calls Try.prog 18 #[.agg #[.int .i64 ax, .int .i64 ay], .agg #[.int .i64 bx, .int .i64 by_]] w fun e w' => e = .returned (.int .i64 D) ∧ Below w.heap.size w w' := by
  rw [← hD]; exact Place.Dist_any _ _ _ _ _

set_option maxRecDepth 100000 in
set_option maxHeartbeats 2500000 in
theorem walk (xb : Option Addr) (Nb cb : Nat) (bs : List Int) (a b c : Int) (hby : ∀ x ∈ bs, 0 ≤ x ∧ x < 256) (ha : 0 ≤ a ∧ a < 256) (hb : 0 ≤ b ∧ b < 256) (w : World)
    (hD : RowB w.heap.size w (.slice xb Nb cb) 1 (bs.map byV)) :
    Calls Try.prog 4 #[.agg #[.slice xb Nb cb, .int .u8 a, .int .u8 b, .int .i64 c]] w fun e w' => e = .returned (.bool true) ∧ Below w.heap.size w w' := by
  have hb0 : Below w.heap.size w (w.alloc (.cells #[.slice xb Nb cb, .int .u8 a, .int .u8 b, .int .i64 c] 24)) := (Below.refl _ _).alloc (Nat.le_refl _) _
  have hX0 := At.new w 24 #[.slice xb Nb cb, .int .u8 a, .int .u8 b, .int .i64 c]
  have hD0 := Lib.hid (RowB.on hD hb0)
  have hby' := Lib.hid hby
  clear hD hby
  go_enter Try.func4, Try.ntmps4
  go_wp2_with fail
  refine (works_any _).mono ?_
  rintro e w1 ⟨rfl, hb1⟩
  have hX1 := hX0.keep hb1 hX0.inside
  have hbA := hb0.trans (hb1.mono hb0.size)
  have hp := parts_any xb Nb cb bs a b c _ (RowB.on hD0.out hb1) hby'.out ha hb
  have x0 := hX1.cell 0
  have x1 := hX1.cell 1
  have x2 := hX1.cell 2
  have x3 := hX1.cell 3
  have hxs := hX1.inside
  simp at x0 x1 x2 x3
  clear hX0 hX1 hb0 hb1 hD0 hby' ha hb
  go_wp2_with fail
  refine hp.mono ?_
  clear hp x0 x1 x2 x3 hxs
  rintro e w2 ⟨⟨v, uo, ur, l, t, rfl, hv, hro, hsm, hlo, hqr, hlr, hch⟩, hb2⟩
  obtain ⟨xo, No, co, rfl, hNo, _, hoc1, hoc2⟩ := hro.opened
  obtain ⟨xr, Nr, cr, rfl, hNr0, hrc1, hrc2, _⟩ := hqr.opened
  have hNr := Lib.hid hNr0
  have hNo12 : No ≤ 12 := by rw [← hNo.out]; exact hlo
  have hbB := hbA.trans (hb2.mono hbA.size)
  have hV3 : At (w2.alloc (.cells #[.int .i64 v.hx, .int .i64 v.hy, .int .i64 v.cp, .int .i64 v.st, .int .i64 v.en] 30)) w2.heap.size 30 #[.int .i64 v.hx, .int .i64 v.hy, .int .i64 v.cp, .int .i64 v.st, .int .i64 v.en] := At.new _ _ _
  have hbV : Below w2.heap.size w2 (w2.alloc (.cells #[.int .i64 v.hx, .int .i64 v.hy, .int .i64 v.cp, .int .i64 v.st, .int .i64 v.en] 30)) := (Below.refl _ _).alloc (Nat.le_refl _) _
  have hro3 := hro.on hbV
  have hqr3 := hqr.on hbV
  have hB3 := Lib.hid (hbB.trans (hbV.mono hbB.size))
  have hc := Times_all v _ _ l t (by omega) hsm.nums _ hro3 hqr3
  have hsm' := Lib.hid hsm
  have hro3' := Lib.hid hro3
  have hqr3' := Lib.hid hqr3
  have hV3' := Lib.hid hV3
  unfold maxLen at hoc2 hrc2
  obtain ⟨n7, hn7⟩ : ∃ n, w2.heap.size = n := ⟨_, rfl⟩
  have hn7' := Lib.hid hn7
  obtain ⟨E, hE⟩ : ∃ E, errT v l t = E := ⟨_, rfl⟩
  obtain ⟨H, hH⟩ : ∃ H, homeT v l t = H := ⟨_, rfl⟩
  rw [hE, hH] at hc
  have hE' := Lib.hid hE
  have hH' := Lib.hid hH
  clear hb2 hbA hbB hV3 hbV hro3 hqr3 hro hqr hsm hlo hNr0 hv hlr hch hn7 hE hH
  go_wp2_with fail
  refine hc.mono ?_
  clear hc
  rintro e w4 ⟨⟨u, rfl, hu, hu0⟩, hb4⟩
  obtain ⟨xa, Na, ca, rfl, hNa0, hca1, hca2, _⟩ := hu.opened
  unfold maxLen at hca2
  rw [hn7'.out]
  cases he0 : (E == 0)
  · have he1 : (E != 0) = true := by simpa using he0
    have hE0 : E ≠ 0 := by simpa using he0
    have hz := hu0 hE0
    simp only [Value.slice.injEq] at hz
    obtain ⟨rfl, rfl, rfl⟩ := hz
    have hH0 : H = 0 := by rw [← hH'.out]; exact homeT_no (by rw [hE'.out]; exact hE0)
    subst hH0
    have hB4 := hB3.out.trans (hb4.mono hB3.out.size)
    clear hu hu0 hNa0 hb4 hE0
    go_wp2
    go_ret
    exact ⟨rfl, hB4⟩
  · have he1 : (E != 0) = false := by simpa using he0
    have hz : errT v l t = 0 := by rw [hE'.out]; simpa using he0
    obtain ⟨hwz, hok⟩ := errT_zero hz
    obtain ⟨hk1, hk2, hk3, hk4⟩ := times_ok hwz
    obtain ⟨hq1, hq2, hq3, hq4⟩ := wrong_bits v l t hwz
    have hall : allB (sp0 v) (visL t l) = true := by unfold okT at hok; rw [Bool.and_eq_true] at hok; exact hok.1
    have hend : endT v l t ≤ v.en := by unfold okT at hok; rw [Bool.and_eq_true, decide_eq_true_eq] at hok; exact hok.2
    have hHe : Hid (H = endT v l t) := Lib.hid (by rw [← hH'.out]; exact homeT_ok hz)
    have hHv : H ≤ v.en := by rw [hHe.out]; exact hend
    have hH1 : 0 ≤ H := by rw [hHe.out]; exact hk2.1
    have hH2 : H ≤ 3000000 := by rw [hHe.out]; exact hk2.2
    rw [timesL_ok hz] at hu hNa0
    have hRl := rowT_length v l t
    have hNaN : Na = No := by rw [← hNa0, hRl, hNo.out]
    subst hNaN
    have hNa16 : Na ≤ 16 := by rw [← hNo.out]; exact hk3
    have hstn : Hid (∀ k, k ≤ Na → 0 ≤ (endA (sp0 v) (upK t l k)).now ∧ (endA (sp0 v) (upK t l k)).now ≤ 1049576) := Lib.hid (fun k hk => by
      refine (tms_ok (upK t l k) (sp0 v) hk4.1 (by show v.st ≤ _; omega) (fun x hx => ?_)).2
      obtain ⟨s, _, rfl⟩ := List.mem_map.1 hx
      exact vis_sv hq2 s)
    have hqs : Hid (∀ (k : Nat) (s : Int × Int), l[k]? = some s → ∃ q, t[s.1.toNat]? = some q ∧ 0 ≤ s.1 ∧ s.1 < (Nr : Int) ∧ (visV t s).sv = q.sv ∧ 0 ≤ q.sv ∧ q.sv ≤ 1000 ∧ visB t s = true) := Lib.hid (fun k s hs => by
      obtain ⟨x, hx⟩ := hq4 s (List.mem_of_getElem? hs)
      obtain ⟨q, hq, h1, h2, h3, _⟩ := visO_some hx
      have := chk_sv (hq2 q (List.mem_of_getElem? hq))
      exact ⟨q, hq, h1, by rw [← hNr.out]; exact h2, by rw [(vis_some hx).1]; exact h3, this.1, this.2, (vis_some hx).2⟩)
    have hRok : Hid (∀ x ∈ rowT v l t, TmOk x) := Lib.hid hk1
    have hall' := Lib.hid hall
    have hst1 : 0 ≤ v.st := hk4.1
    have hst2 : v.st ≤ 1048576 := hk4.2
    have hS4 : Hid (GoesAt w n7 v (.slice xo Na co) (.slice xr Nr cr) (.slice xa Na ca) l t (rowT v l t) w4) := Lib.hid ⟨by rw [← hn7'.out]; exact hV3'.out.keep hb4 hV3'.out.inside, hro3'.out.on hb4, hqr3'.out.on hb4, hu, hB3.out.trans (hb4.mono hB3.out.size)⟩
    have hz' := Lib.hid hz
    clear hz hwz hok hk1 hk2 hk3 hk4 hq1 hq2 hq3 hq4 hall hend hu hu0 hNa0 hRl hb4 hro3' hqr3' hV3' hB3 hn7' hNa16
    have p0 := hS4.out.veh.cell 0
    have p1 := hS4.out.veh.cell 1
    have p3 := hS4.out.veh.cell 3
    have hps := hS4.out.veh.inside
    simp at p0 p1 p3
    go_upto_region 7 with fail
    go_region
    have hA5 : At ((w4.alloc (.cells #[.int .i64 v.hx, .int .i64 v.hy] 28)).drew) w4.heap.size 28 #[.int .i64 v.hx, .int .i64 v.hy] := (At.new _ _ _).drew
    have hb5 : Below w4.heap.size w4 ((w4.alloc (.cells #[.int .i64 v.hx, .int .i64 v.hy] 28)).drew) := Below.drew ((Below.refl _ _).alloc (Nat.le_refl _) _)
    have hS5 := Lib.hid (hS4.out.on hb5)
    have hng : Hid (n7 < w4.heap.size) := Lib.hid hps
    generalize (w4.alloc (.cells #[.int .i64 v.hx, .int .i64 v.hy] 28)).drew = w5 at *
    have hxo := (hS4.out.row)
    obtain ⟨n9, hn9⟩ : ∃ n, w4.heap.size = n := ⟨_, rfl⟩
    rw [hn9] at hA5 hng ⊢
    have hold : Hid (∀ W, Below w4.heap.size w4 W → GoesAt w n7 v (.slice xo Na co) (.slice xr Nr cr) (.slice xa Na ca) l t (rowT v l t) W) := Lib.hid (fun W hb => hS4.out.on hb)
    have hb5' : Below n9 w4 w5 := by rw [← hn9]; exact hb5
    have hn9' := Lib.hid hn9
    clear p0 p1 p3 hps hb5 hxo hS4 hn9
    go_wp2
    go_loopw [10, 11, 12, 13, 14] (fun nw wy wt sv i wr => ∃ k : Nat, i = .int .i64 k ∧ k ≤ Na ∧ nw = .int .i64 (endA (sp0 v) (upK t l k)).now ∧ wy = .int .i64 (wayS v.st ((rowT v l t).take k)) ∧ wt = .int .i64 (waitS ((rowT v l t).take k)) ∧ sv = .int .i64 (servS ((rowT v l t).take k)) ∧ At wr n9 28 #[.int .i64 (endA (sp0 v) (upK t l k)).px, .int .i64 (endA (sp0 v) (upK t l k)).py] ∧ Below n9 w4 wr) (fun _ _ _ _ i _ => Na - (intOf i).toNat)
    case atStart => exact ⟨0, rfl, Nat.zero_le _, rfl, rfl, rfl, rfl, hA5, hb5'⟩
    case round =>
      obtain ⟨k, rfl, hk, rfl, rfl, rfl, rfl, hA, hb9⟩ := hrel
      clear hA5 hb5' hS5
      have hS := hold.out wr (by rw [hn9'.out]; exact hb9)
      obtain ⟨hn0, hn2⟩ := hstn.out k hk
      obtain ⟨⟨s1, s2⟩, ⟨s3, s4⟩, ⟨s5, s6⟩, _⟩ := sums_bd ((rowT v l t).take k) (fun y hy => hRok.out y (List.mem_of_mem_take hy)) v.st hst1 (by omega)
      have hlk : (((rowT v l t).take k).length : Int) ≤ 12 := by rw [List.length_take]; omega
      have hlf := Lib.hid (left_now (v := v) (t := t) (show k ≤ l.length by rw [hNo.out]; exact hk))
      have hway := Lib.hid (way_all ((rowT v l t).take k) v.st)
      obtain ⟨WY, hWY⟩ : ∃ x, wayS v.st ((rowT v l t).take k) = x := ⟨_, rfl⟩
      obtain ⟨WT, hWT⟩ : ∃ x, waitS ((rowT v l t).take k) = x := ⟨_, rfl⟩
      obtain ⟨SV, hSV⟩ : ∃ x, servS ((rowT v l t).take k) = x := ⟨_, rfl⟩
      obtain ⟨S, hSe⟩ : ∃ S, endA (sp0 v) (upK t l k) = S := ⟨_, rfl⟩
      rw [hWY] at s5 s6 ⊢
      rw [hWT] at s1 s2 ⊢
      rw [hSV] at s3 s4 ⊢
      rw [hSe] at hA hn0 hn2 ⊢
      have hy1 : -36000000 ≤ WY := by omega
      have hy2 : WY ≤ 36000000 := by omega
      have hy3 : -36000000 ≤ WT := by omega
      have hy4 : WT ≤ 36000000 := by omega
      have hy5 : -36000000 ≤ SV := by omega
      have hy6 : SV ≤ 36000000 := by omega
      have hWY' := Lib.hid hWY
      have hWT' := Lib.hid hWT
      have hSV' := Lib.hid hSV
      have hSe' := Lib.hid hSe
      clear s1 s2 s3 s4 s5 s6 hlk hWY hWT hSV hSe
      have hS' := Lib.hid hS
      have hA' := Lib.hid hA
      have hb9' := Lib.hid hb9
      have hn9r : n9 < wr.heap.size := hA.inside
      have hn7r : n7 < n9 := by have := hng.out; omega
      clear hS hA hb9
      by_cases hlt : k < Na
      · skip
        obtain ⟨⟨s1, s2⟩, hs⟩ : ∃ s, l[k]? = some s := ⟨l[k]'(by rw [hNo.out]; exact hlt), List.getElem?_eq_getElem _⟩
        obtain ⟨q, hq, hr1, hr2, hr3, hr4, hr5, hvb⟩ := hqs.out k (s1, s2) hs
        obtain ⟨r, rfl⟩ : ∃ r : Nat, s1 = r := ⟨s1.toNat, by simp only at hr1; omega⟩
        simp only [Int.toNat_natCast] at hq hr1 hr2
        have hrN : r < Nr := by omega
        obtain ⟨g, o, rfl, hg, _⟩ := Row.stop hS'.out.row hs
        obtain ⟨gt, ot, rfl, hgt, _⟩ := Rqs.at hS'.out.rqs hq
        obtain ⟨ga, oa, rfl, hga, _⟩ := Tms.at hS'.out.tms (row_get hs)
        have hcells : Hid (∀ W, Below wr.heap.size wr W → W.cell? ⟨g, o + k * 2, none⟩ = some (.int .i64 r) ∧ W.cell? ⟨g, o + k * 2 + 1, none⟩ = some (.int .i64 s2) ∧ W.cell? ⟨gt, ot + r * 10 + 9, none⟩ = some (.int .i64 q.sv) ∧ g < W.heap.size ∧ gt < W.heap.size ∧ ga < W.heap.size ∧
            W.cell? ⟨ga, oa + k * 3, none⟩ = some (.int .i64 (arV S (visV t (r, s2)))) ∧ W.cell? ⟨ga, oa + k * 3 + 1, none⟩ = some (.int .i64 (beV S (visV t (r, s2)))) ∧ W.cell? ⟨ga, oa + k * 3 + 2, none⟩ = some (.int .i64 (beV S (visV t (r, s2)) + (visV t (r, s2)).sv))) := Lib.hid (fun W hb => by
          have hW := hS'.out.on hb
          obtain ⟨g', o', eg, hg', c0, c1⟩ := Row.stop hW.row hs
          simp only [Option.some.injEq, Addr.mk.injEq] at eg
          obtain ⟨rfl, rfl, _⟩ := eg
          obtain ⟨g', o', eg, hg2, _, _, _, _, _, _, _, _, _, c2⟩ := Rqs.at hW.rqs hq
          simp only [Option.some.injEq, Addr.mk.injEq] at eg
          obtain ⟨rfl, rfl, _⟩ := eg
          obtain ⟨g', o', eg, hg3, c3, c4, c5⟩ := Tms.at hW.tms (row_get hs)
          simp only [Option.some.injEq, Addr.mk.injEq] at eg
          obtain ⟨rfl, rfl, _⟩ := eg
          rw [hSe'.out] at c3 c4 c5
          exact ⟨c0, c1, c2, hg', hg2, hg3, c3, c4, c5⟩)
        have hgd := good_at hs hall'.out
        rw [hSe'.out] at hgd
        have hvi := visit_in hgd
        have hX1 := Lib.hid (upK_snoc (t := t) hs)
        have hRg := Lib.hid (row_get (v := v) (t := t) hs)
        obtain ⟨u, hu⟩ : ∃ u, visV t ((r : Int), s2) = u := ⟨_, rfl⟩
        obtain ⟨D, hDe⟩ : ∃ D, Place.distV (S.px, S.py) (u.px, u.py) = D := ⟨_, rfl⟩
        have hDb := Order.distV_bd (S.px, S.py) (u.px, u.py)
        rw [hu] at hvi hr3
        simp only [hu] at hcells hRg hX1
        have hAr : arV S u = S.now + D := by unfold arV; rw [hDe]
        obtain ⟨BE, hBE⟩ : ∃ BE, beV S u = BE := ⟨_, rfl⟩
        simp only [hAr, hBE, hr3] at hcells
        rw [hAr, hBE] at hvi
        rw [hDe] at hDb
        obtain ⟨hD1, hD2⟩ := hDb
        obtain ⟨i1, i2, i3, i4⟩ := hvi
        have hBb := wait_bd u.we u.wl (arV S u)
        have hB1 : 0 ≤ BE := by rw [← hBE]; exact hBb.1
        have hB2 : BE ≤ 1048576 := by rw [← hBE]; exact hBb.2
        have hTm : Hid (tmV S u = ⟨S.now + D, BE, BE + q.sv⟩ ∧ goV S u = ⟨BE + q.sv, u.px, u.py⟩) := Lib.hid (by unfold tmV goV; rw [hAr, hBE, hr3]; exact ⟨rfl, rfl⟩)
        have hcP := fun W (hb : Below wr.heap.size wr W) => Place_any r s2 _ t W (hS'.out.on hb).rqs
        have hcW := fun W (hb : Below wr.heap.size wr W) => Window_any r s2 _ t W (hS'.out.on hb).rqs
        simp only [hu, hvb] at hcP hcW
        have hcP' := Lib.hid hcP
        have hcW' := Lib.hid hcW
        have hcD := Lib.hid (fun W => distP S.px S.py u.px u.py D hDe W)
        have hsq1 : 0 ≤ q.sv := hr4
        have hsq2 : q.sv ≤ 1000 := hr5
        have hs' := Lib.hid hs
        clear hq hr1 hr2 hr3 hr4 hr5 hvb hg hgt hga hgd hu hDe hAr hBE hBb hcP hcW hs
        -- Place
        obtain ⟨c0, c1, c2, c3, c4, c5, c6, c7, c8⟩ := hcells.out wr (Below.refl _ _)
        go_wp2_with fail
        refine (hcP'.out _ (Below.refl _ _)).mono ?_
        clear c0 c1 c2 c3 c4 c5 c6 c7 c8
        rintro e w6 ⟨rfl, hb6⟩
        have hP7 : At (w6.alloc (.cells #[.int .i64 u.px, .int .i64 u.py] 28)) w6.heap.size 28 #[.int .i64 u.px, .int .i64 u.py] := At.new _ _ _
        have hb7 : Below wr.heap.size wr (w6.alloc (.cells #[.int .i64 u.px, .int .i64 u.py] 28)) := hb6.alloc hb6.size _
        have hcw := hcW'.out _ hb7
        obtain ⟨c0, c1, _, c3, _, _, _, _, _⟩ := hcells.out w6 hb6
        have hP7' := Lib.hid hP7
        have hb7' := Lib.hid hb7
        clear hb6 hP7 hb7
        go_wp2_with fail
        refine hcw.mono ?_
        clear hcw c0 c1 c3
        rintro e w8 ⟨rfl, hb8⟩
        have hbr8 := hb7'.out.trans (hb8.mono hb7'.out.size)
        have hP8 := hP7'.out.keep hb8 hP7'.out.inside
        clear hb8 hP7' hb7'
        -- the test
        obtain ⟨w9, hw9⟩ : ∃ w9, (w8.alloc (.cells #[.int .i64 u.we, .int .i64 u.wl] 47)).alloc (.cells #[.int .i64 (S.now + D), .int .i64 BE, .int .i64 (BE + q.sv)] 53) = w9 := ⟨_, rfl⟩
        have hbr9 : Below wr.heap.size wr w9 := by rw [← hw9]; exact (hbr8.alloc hbr8.size _).alloc (by simp; have := hbr8.size; omega) _
        have hP9 : At w9 w6.heap.size 28 #[.int .i64 u.px, .int .i64 u.py] := by rw [← hw9]; exact (hP8.alloc _).alloc _
        have hW9 : At w9 w8.heap.size 47 #[.int .i64 u.we, .int .i64 u.wl] := by rw [← hw9]; exact (At.new _ _ _).alloc _
        have hX9 : At w9 (w8.heap.size + 1) 53 #[.int .i64 (S.now + D), .int .i64 BE, .int .i64 (BE + q.sv)] := by rw [← hw9]; exact At.new_ _ _ _ (by simp)
        have hA9 := hA'.out.keep hbr9 hn9r
        obtain ⟨c0, c1, c2, c3, c4, c5, c6, c7, c8⟩ := hcells.out w8 hbr8
        have hw9' := Lib.hid hw9
        have hbr9' := Lib.hid hbr9
        have hP9' := Lib.hid hP9
        have hW9' := Lib.hid hW9
        have hX9' := Lib.hid hX9
        have hA9' := Lib.hid hA9
        clear hw9 hbr9 hP9 hW9 hX9 hA9 hP8 hbr8
        go_wp2_with fail
        rw [hw9'.out]
        simp only [List.append_eq, List.cons_append, List.nil_append]
        clear c0 c1 c2 c3 c4 c5 c6 c7 c8
        obtain ⟨c0, c1, c2, c3, c4, c5, c6, c7, c8⟩ := hcells.out w9 hbr9'.out
        have a0 := hA9'.out.cell 0
        have a1 := hA9'.out.cell 1
        have p0 := hP9'.out.cell 0
        have p1 := hP9'.out.cell 1
        have e0 := hW9'.out.cell 0
        have e1 := hW9'.out.cell 1
        have f0 := hX9'.out.cell 0
        have f1 := hX9'.out.cell 1
        have f2 := hX9'.out.cell 2
        simp at a0 a1 p0 p1 e0 e1 f0 f1 f2
        have kc0 := cell_regrown c0
        have kc2 := cell_regrown c2
        have ka0 := cell_regrown a0
        have ka1 := cell_regrown a1
        have kp0 := cell_regrown p0
        have kp1 := cell_regrown p1
        have ke0 := cell_regrown e0
        have ke1 := cell_regrown e1
        have kf0 := cell_regrown f0
        have kf1 := cell_regrown f1
        have kf2 := cell_regrown f2
        have kD := fun d os => Calls.regrown_of (hcD.out (grow (redrawn w9 d) os))
        have g1 : decide (BE < u.we) = false := decide_eq_false (by omega)
        have g2 : decide (u.wl < BE) = false := decide_eq_false (by omega)
        have g3 : decide (BE < S.now + D) = false := decide_eq_false (by omega)
        have g4 : decide (max (S.now + D) u.we < BE) = false := decide_eq_false (by omega)
        have m1 : 0 ≤ S.now + D := by omega
        have m2 : S.now + D ≤ 2000000 := by omega
        have m3 : 0 ≤ BE + q.sv := by omega
        have m4 : BE + q.sv ≤ 2000000 := by omega
        have hend : Hid (endA (sp0 v) (upK t l (k + 1)) = ⟨BE + q.sv, u.px, u.py⟩) := Lib.hid (by rw [hX1.out, endA_snoc, hSe'.out, hTm.out.2])
        have htk : Hid ((rowT v l t).take (k + 1) = (rowT v l t).take k ++ [⟨S.now + D, BE, BE + q.sv⟩]) := Lib.hid (by rw [tm_take hRg.out, hSe'.out, hTm.out.1])
        have hsums : Hid (wayS v.st ((rowT v l t).take (k + 1)) = WY + (S.now + D) - S.now ∧ waitS ((rowT v l t).take (k + 1)) = WT + BE - (S.now + D) ∧ servS ((rowT v l t).take (k + 1)) = SV + (BE + q.sv) - BE) := Lib.hid (by
          rw [htk.out, wayS_snoc, waitS_snoc, servS_snoc, hWY'.out, hWT'.out, hSV'.out, hlf.out, hSe'.out]
          dsimp only
          omega)
        have i4' : ¬ (max (S.now + D) u.we < BE) := by omega
        have hBq : BE ≤ BE + q.sv := by omega
        by_cases hk0 : k = 0
        · subst hk0
          simp only [Nat.zero_mul, Nat.add_zero] at kc0
          simp only [show ((0 : Nat) : Int) = 0 from rfl]
          refine wp_region_quiet_below (by kernel_rfl) (by kernel_rfl) ?_
          repeat (go_big_quiet_step (first | with_reducible exact kD _ _))
          refine wpQuiet_nil ?_
          intro _ hw'
          obtain ⟨⟨dq, osq⟩, hw''⟩ := hw'
          subst hw''
          have hbg := below_regrown w9 dq osq
          have hbr10' := Lib.hid (hbr9'.out.trans (hbg.mono hbr9'.out.size))
          have hP10' := Lib.hid (hP9'.out.keep hbg hP9'.out.inside)
          have hX10 := hX9'.out.keep hbg hX9'.out.inside
          have hA10' := Lib.hid (hA9'.out.keep hbg hA9'.out.inside)
          generalize grow (redrawn w9 dq) osq = w10 at *
          clear kD kc0 kc2 ka0 ka1 kp0 kp1 ke0 ke1 kf0 kf1 kf2 c0 c1 c2 c3 c4 c5 c6 c7 c8 a0 a1 p0 p1 e0 e1 f0 f1 f2 hbg hP9' hX9' hA9' hbr9' hW9' hw9'
          have f0 := hX10.cell 0
          have f1 := hX10.cell 1
          have f2 := hX10.cell 2
          have hsX : w8.heap.size + 1 < w10.heap.size := hX10.inside
          simp at f0 f1 f2
          go_upto_region 17 with fail
          go_quiet (fail)
          have hbq : Below wr.heap.size wr (w10.drewN nq) := Place.below_drewN hbr10'.out nq
          have hPq := At.drewN hP10'.out nq
          have hAq := At.drewN hA10'.out nq
          have hXq := At.drewN hX10 nq
          generalize w10.drewN nq = w11 at *
          clear f0 f1 f2 hsX hX10
          have p0 := hPq.cell 0
          have p1 := hPq.cell 1
          have f2 := hXq.cell 2
          have a0 := hAq.cell 0
          have a1 := hAq.cell 1
          have af := hAq.free
          have t1 : w6.heap.size < w11.heap.size := hPq.inside
          have t2 : w8.heap.size + 1 < w11.heap.size := hXq.inside
          have t3 : n9 < w11.heap.size := hAq.inside
          simp at p0 p1 f2 a0 a1
          have hAq' := Lib.hid hAq
          have hbq' := Lib.hid hbq
          clear hPq hAq hXq hbq hP10' hA10' hbr10'
          go_upto_region 18 with fail
          go_region
          go_wp2
          go_roundw
          case rel =>
            refine ⟨0 + 1, by go_num, hlt, ?_, ?_, ?_, ?_, ?_, ?_⟩
            · rw [hend.out]
            · rw [hsums.out.1]
            · rw [hsums.out.2.1]
            · rw [hsums.out.2.2]
            · rw [hend.out]
              exact put2 hAq'.out
            · exact Below.drew (((hb9'.out.trans (hbq'.out.mono (Nat.le_of_lt hn9r))).setCell (by simp) _).setCell (by simp) _)
          case measure => simp [intOf]; omega
        · obtain ⟨m, rfl⟩ : ∃ m, k = m + 1 := ⟨k - 1, by omega⟩
          obtain ⟨sp, hsp⟩ : ∃ s, l[m]? = some s := ⟨l[m]'(by rw [hNo.out]; omega), List.getElem?_eq_getElem _⟩
          have hprev := row_get (v := v) (t := t) hsp
          have hpm := hRok.out _ (List.mem_of_getElem? hprev)
          have hSn : S.now = beV (endA (sp0 v) (upK t l m)) (visV t sp) + (visV t sp).sv := by rw [← hSe'.out, upK_snoc hsp, endA_snoc]; rfl
          obtain ⟨qp, _, _, _, hpsv, hps1, _⟩ := hqs.out m sp hsp
          obtain ⟨g', o', eg, _, _, d1, _⟩ := Tms.at (hS'.out.on hbr9'.out).tms hprev
          simp only [Option.some.injEq, Addr.mk.injEq] at eg
          obtain ⟨rfl, rfl, _⟩ := eg
          obtain ⟨PB, hPB⟩ : ∃ PB, beV (endA (sp0 v) (upK t l m)) (visV t sp) = PB := ⟨_, rfl⟩
          replace d1 : w9.cell? ⟨ga, oa + m * 3 + 1, none⟩ = some (.int .i64 PB) := by rw [← hPB]; exact d1
          rw [hPB] at hSn
          have hPB1 : PB ≤ S.now := by omega
          have g5 : decide (BE < PB) = false := decide_eq_false (by omega)
          have hmN : m < Na := by omega
          clear hprev hpm hSn hpsv hps1 hPB hsp
          have kd1 := cell_regrown d1
          have hmw : IntKind.i64.wrap ((m : Int) + 1 - 1) = (m : Int) := by rw [show ((m : Int) + 1 - 1) = m by omega]; exact IntWalk.i64_in _ ⟨by omega, by omega⟩
          refine wp_region_quiet_below (by kernel_rfl) (by kernel_rfl) ?_
          repeat (go_big_quiet_step (first | with_reducible exact kD _ _))
          refine wpQuiet_nil ?_
          intro _ hw'
          obtain ⟨⟨dq, osq⟩, hw''⟩ := hw'
          subst hw''
          have hbg := below_regrown w9 dq osq
          have hbr10' := Lib.hid (hbr9'.out.trans (hbg.mono hbr9'.out.size))
          have hP10' := Lib.hid (hP9'.out.keep hbg hP9'.out.inside)
          have hX10 := hX9'.out.keep hbg hX9'.out.inside
          have hA10' := Lib.hid (hA9'.out.keep hbg hA9'.out.inside)
          generalize grow (redrawn w9 dq) osq = w10 at *
          clear kD kc0 kc2 ka0 ka1 kp0 kp1 ke0 ke1 kf0 kf1 kf2 c0 c1 c2 c3 c4 c5 c6 c7 c8 a0 a1 p0 p1 e0 e1 f0 f1 f2 hbg hP9' hX9' hA9' hbr9' hW9' hw9'
          have f0 := hX10.cell 0
          have f1 := hX10.cell 1
          have f2 := hX10.cell 2
          have hsX : w8.heap.size + 1 < w10.heap.size := hX10.inside
          simp at f0 f1 f2
          go_upto_region 17 with fail
          go_quiet (fail)
          have hbq : Below wr.heap.size wr (w10.drewN nq) := Place.below_drewN hbr10'.out nq
          have hPq := At.drewN hP10'.out nq
          have hAq := At.drewN hA10'.out nq
          have hXq := At.drewN hX10 nq
          generalize w10.drewN nq = w11 at *
          clear f0 f1 f2 hsX hX10
          have p0 := hPq.cell 0
          have p1 := hPq.cell 1
          have f2 := hXq.cell 2
          have a0 := hAq.cell 0
          have a1 := hAq.cell 1
          have af := hAq.free
          have t1 : w6.heap.size < w11.heap.size := hPq.inside
          have t2 : w8.heap.size + 1 < w11.heap.size := hXq.inside
          have t3 : n9 < w11.heap.size := hAq.inside
          simp at p0 p1 f2 a0 a1
          have hAq' := Lib.hid hAq
          have hbq' := Lib.hid hbq
          clear hPq hAq hXq hbq hP10' hA10' hbr10'
          go_upto_region 18 with fail
          go_region
          go_wp2
          go_roundw
          case rel =>
            refine ⟨(m + 1) + 1, by go_num, hlt, ?_, ?_, ?_, ?_, ?_, ?_⟩
            · rw [hend.out]
            · rw [hsums.out.1]
            · rw [hsums.out.2.1]
            · rw [hsums.out.2.2]
            · rw [hend.out]
              exact put2 hAq'.out
            · exact Below.drew (((hb9'.out.trans (hbq'.out.mono (Nat.le_of_lt hn9r))).setCell (by simp) _).setCell (by simp) _)
          case measure => simp [intOf]; omega
      · obtain rfl : k = Na := by omega
        have hfull : (rowT v l t).take k = rowT v l t := List.take_of_length_le (by rw [rowT_length, hNo.out]; exact Nat.le_refl _)
        have hua : upK t l k = visL t l := by rw [← hNo.out]; exact upK_all t l
        rw [hfull] at hWY' hWT' hSV' hlf hway
        rw [hua] at hSe' hlf
        obtain ⟨D, hDe⟩ : ∃ D, Place.distV (S.px, S.py) (v.hx, v.hy) = D := ⟨_, rfl⟩
        have hDb := Order.distV_bd (S.px, S.py) (v.hx, v.hy)
        rw [hDe] at hDb
        obtain ⟨hD1, hD2⟩ := hDb
        have hHD : H = S.now + D := by
          rw [hHe.out]
          unfold endT arV
          rw [hSe'.out]
          show S.now + Place.distV (S.px, S.py) (v.hx, v.hy) = _
          rw [hDe]
        have hlS : leftS v.st (rowT v l t) = S.now := by rw [hlf.out, hSe'.out]
        have hFw : wayT v l t = WY + H - S.now := by rw [wayT_eq v l t hz'.out, hWY'.out, hlS, hHe.out]; omega
        have hFt : waitT v l t = WT := by unfold waitT; rw [timesL_ok hz'.out]; exact hWT'.out
        have hFs : servT v l t = SV := by unfold servT; rw [timesL_ok hz'.out]; exact hSV'.out
        have hsum : WY + H - S.now + WT + SV = H - v.st := by
          have := hway.out
          rw [hWY'.out, hWT'.out, hSV'.out, hlS] at this
          omega
        have hc := Spent_any v _ _ l t (by rw [hNo.out]; omega) hsm'.out.nums wr hS'.out.row hS'.out.rqs
        rw [hFw, hFt, hFs, hz'.out] at hc
        have hcD := Lib.hid (fun W => distP S.px S.py v.hx v.hy D hDe W)
        have hHD' := Lib.hid hHD
        have hsum' := Lib.hid hsum
        have p0 := hS'.out.veh.cell 0
        have p1 := hS'.out.veh.cell 1
        have p2 := hS'.out.veh.cell 2
        have p3 := hS'.out.veh.cell 3
        have p4 := hS'.out.veh.cell 4
        have hps := hS'.out.veh.inside
        simp at p0 p1 p2 p3 p4
        clear hfull hua hDe hHD hlS hFw hFt hFs hsum
        go_wp2_with fail
        refine hc.mono ?_
        clear hc p0 p1 p2 p3 p4 hps
        rintro e w6 ⟨rfl, hb6⟩
        have hS6 := hS'.out.on hb6
        have hA6 := hA'.out.keep hb6 hn9r
        have p0 := hS6.veh.cell 0
        have p1 := hS6.veh.cell 1
        have p3 := hS6.veh.cell 3
        have p4 := hS6.veh.cell 4
        have hps := hS6.veh.inside
        have a0 := hA6.cell 0
        have a1 := hA6.cell 1
        have has := hA6.inside
        simp at p0 p1 p3 p4 a0 a1
        have hS6' := Lib.hid hS6
        clear hS6 hA6 hb6
        rw [hHD'.out] at hsum' hHv hH1 hH2 ⊢
        go_wp2_with fail
        refine (hcD.out _).mono ?_
        clear p0 p1 p3 p4 hps a0 a1 has
        rintro e w7 ⟨rfl, hb7⟩
        have hS7 := hS6'.out.on hb7
        have p3 := hS7.veh.cell 3
        have p4 := hS7.veh.cell 4
        have hps := hS7.veh.inside
        simp at p3 p4
        have hB7 := Lib.hid hS7.below
        have hsum := hsum'.out
        clear hS7 hb7
        go_wp2
        go_ret
        exact ⟨rfl, hB7.out⟩

set_option maxRecDepth 100000 in
theorem lifted (os : Os) (started : os.Started) (H : Type) (enc : TypeId × Value → H) :
    ReturnsInHanded {} Try.checked os 4 .any (Rows.schedGoesSpec.pre6 enc Try.prog Try.f4 Rows.schedGoesRow.domain false) (Rows.schedGoesSpec.post enc Try.prog Try.f4 false true false false) := by
  refine returnsInHanded_of_change (C := Try.checked) own started (by kernel_rfl) Try.func4
    (ChangeSpec.witness6 (enc := enc) (C := Try.checked) false ⟨#[], #[.agg #[.slice none 0 0, .int .u8 0, .int .u8 0, .int .i64 0]], []⟩ 8 (by kernel_rfl) (by kernel_rfl) (by kernel_rfl) (by kernel_rfl)) ?_
  intro W base args ds gs before hval0 hW hcnd _
  have hval : ∀ (j : Nat) t v, Try.f4.params[j]? = some t → args[j]? = some v → Value.okWide Try.prog W .any base t v := hval0
  have hW' := hW
  obtain ⟨p, q, hA0, hV, rfl, hfz, hnd⟩ := hW
  have hA : DataW.TrodAll enc Try.prog W 0 (fun _ => true) true Try.f4.params.toList args.toList ds p := hA0
  rw [Try.params4] at hA hval
  obtain ⟨v0, vs0, d0, ds0, p0, q0, hargs, rfl, rfl, h0, r0⟩ := trodAll_cons hA
  obtain ⟨rfl, rfl, rfl⟩ := trodAll_nil r0
  obtain rfl : args = #[v0] := by cases args; simp_all
  obtain ⟨rfl, rfl⟩ := trodVars_none hV
  obtain ⟨xb, Nb, cb, bs, a, b, k, rfl, hrow, hby, ha, hb⟩ := openDraft (hval 0 24 v0 rfl rfl) h0
  exact (walk xb Nb cb bs a b k hby ha hb W hrow).mono fun e W' ⟨he, hb⟩ => ⟨_, he, Close.law_post laidOut (by kernel_rfl) rfl (by kernel_rfl) Try.underlying4 hW' rfl hb⟩

theorem over : Rows.schedGoesRow.holds Try.pinned (OpenSpec.ofChange Rows.schedGoesSpec) :=
  OpenClaim.holds_of_wide 4 Try.f4 rfl rfl rfl rfl rfl rfl rfl ⟨rfl, rfl, rfl, rfl, rfl⟩ rfl rfl rfl rfl rfl (by kernel_rfl) Try.func4 (by kernel_rfl)
    (of_decide_eq_true (by kernel_rfl)) (by unfold Func.isWrapper; first | (rw [if_pos (by decide +kernel)]; kernel_rfl) | (rw [if_neg (by decide +kernel)]; exact ⟨rfl, rfl⟩))
    (fun os started H enc _ => lifted os started H enc)

theorem proved : Rows.SchedGoesSaid := over
#print axioms proved

end Go.Proofs.Ytphpkcndaifoiaa.schedGoes

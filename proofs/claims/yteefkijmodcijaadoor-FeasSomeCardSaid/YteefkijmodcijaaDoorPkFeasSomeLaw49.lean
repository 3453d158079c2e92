import Derived.Test.YteefkijmodcijaaDoorPkFeasSomeLaw40
import Derived.Test.YteefkijmodcijaaDoorPkFeasSomeLaw47
import Derived.Test.YteefkijmodcijaaDoorPkFeasSomeLaw43
import Derived.Test.YteefkijmodcijaaDoorPkFeasSomeLaw48
import Derived.Test.YteefkijmodcijaaDoorRows
import Derived.Test.YteefkijmodcijaaDoorTie
import Derived.Test.YteefkijmodcijaaDoorCards
import Derived.Test.YteefkijmodcijaaDoorPkFeasSomeLaw39
import Derived.Test.YteefkijmodcijaaDoorPkFeasSomeLaw44
import Derived.ChangeSame
import Derived.ChangeVars
import Derived.JoinedOf
import Derived.RowKit
import Derived.RowKitTokens
import Derived.LaidLaws
import Derived.LaidHandle
import Derived.Stop.Joined
import Derived.SevenTiedAt

/-
  FeasSome returns true, whatever the draft, the times and memory are. Its condition: errors.errorType holds its handle.
-/
namespace Go.Proofs.YteefkijmodcijaaDoor.feasSome
open Go.ChangeShapes Go.WideShapes Go.ChangeAt Go.RowKit Go.Sort Go.Proofs.YteefkijmodcijaaDoor.Mem Go.Proofs.YteefkijmodcijaaDoor.Route Go.Proofs.YteefkijmodcijaaDoor.When Go.Proofs.YteefkijmodcijaaDoor.Feas
set_option linter.unusedVariables false

set_option maxRecDepth 100000 in
set_option maxHeartbeats 8000000 in
theorem walk (xb : Option Addr) (Nb cb : Nat) (bs : List Int) (a b c : Int) (hby : ∀ x ∈ bs, 0 ≤ x ∧ x < 256) (ha : 0 ≤ a ∧ a < 256) (hb : 0 ≤ b ∧ b < 256) (yb : Option Addr) (My cy : Nat) (ys : List Int) (A Wh M : Int) (hys : ∀ x ∈ ys, 0 ≤ x ∧ x < 256) (hA : 0 ≤ A ∧ A < 256) (hWh : 0 ≤ Wh ∧ Wh < 256) (hM : -128 ≤ M ∧ M < 128)  (w : World) (hg : Hd w)
    (hD : RowB w.heap.size w (.slice xb Nb cb) 1 (bs.map byV)) (hP : RowB w.heap.size w (.slice yb My cy) 1 (ys.map byV)) :
    Calls Tryd.prog 5 #[.agg #[.slice xb Nb cb, .int .u8 a, .int .u8 b, .int .i64 c], .agg #[.slice yb My cy, .int .u8 A, .int .u8 Wh, .int .i8 M]] w fun e w' => e = .returned (.bool true) ∧ Below w.heap.size w w' := by
  obtain ⟨q, hq⟩ : ∃ q, w.heap.size = q := ⟨_, rfl⟩
  obtain ⟨w1, hw1⟩ : ∃ w1, (w.alloc (.cells #[.slice xb Nb cb, .int .u8 a, .int .u8 b, .int .i64 c] 24)).alloc (.cells #[.slice yb My cy, .int .u8 A, .int .u8 Wh, .int .i8 M] 27) = w1 := ⟨_, rfl⟩
  have hX1 : At w1 q 24 #[.slice xb Nb cb, .int .u8 a, .int .u8 b, .int .i64 c] := by rw [← hw1]; exact (At.new_ _ _ _ hq.symm).alloc _
  have hY1 : At w1 (q + 1) 27 #[.slice yb My cy, .int .u8 A, .int .u8 Wh, .int .i8 M] := by rw [← hw1]; exact At.new_ _ _ _ (by simp [hq])
  have hb1 : Below w.heap.size w w1 := by rw [← hw1]; exact ((Below.refl _ _).alloc (by omega) _).alloc (by simp) _
  have hs1 : q + 1 < w1.heap.size := hY1.inside
  have hg1 := hg.on hb1
  have hD1 := Lib.hid (RowB.on hD hb1)
  have hP1 := Lib.hid (RowB.on hP hb1)
  have hby' := Lib.hid hby
  have hys' := Lib.hid hys
  have hw1' := Lib.hid hw1
  have hq' := Lib.hid hq
  clear hD hP hby hys hw1 hg hq
  go_enter Tryd.func5, Tryd.ntmps5
  go_upto_region 1 with fail
  first | rw [hw1'.out] | (simp only [hq'.out]; rw [hw1'.out])
  go_wp2_with fail
  refine (works_any _ hg1).mono ?_
  rintro e w2 ⟨rfl, hb2⟩
  have hg2 := hg1.on hb2
  have hX2 := hX1.keep hb2 hX1.inside
  have hY2 := hY1.keep hb2 hY1.inside
  have hbA := hb1.trans (hb2.mono hb1.size)
  have hp := parts_any xb Nb cb bs a b c _ (RowB.on hD1.out hb2) hby'.out ha hb
  have hP2 := Lib.hid (RowB.on hP1.out hb2)
  have hq2 : q + 1 < w2.heap.size := hY2.inside
  have x0 := hX2.cell 0
  have x1 := hX2.cell 1
  have x2 := hX2.cell 2
  have x3 := hX2.cell 3
  simp at x0 x1 x2 x3
  try simp only [hq'.out]
  clear hX1 hY1 hb1 hb2 hD1 hP1 hby' ha hb hg1 hs1 hw1'
  go_wp2_with fail
  refine hp.mono ?_
  clear hp x0 x1 x2 x3 hX2
  rintro e w3 ⟨⟨v, uo, ur, l, t, rfl, hv, hro, hsm, hlo, hqr, hlr, hch⟩, hb3⟩
  have hDr : Hid (Dr v l t) := Lib.hid (Dr.of hv hsm hlo hch)
  have hnum : Hid (Nums l) := Lib.hid (Dr.nums (v := v) (t := t) hsm)
  have hvd := Lib.hid hv
  have hfine := Lib.hid hsm
  have hdr := Lib.hid hch
  obtain ⟨n, hn⟩ : ∃ n, w3.heap.size = n := ⟨_, rfl⟩
  obtain ⟨w4, hw4⟩ : ∃ w4, w3.alloc (.cells #[.int .i64 v.hx, .int .i64 v.hy, .int .i64 v.cp, .int .i64 v.st, .int .i64 v.en] 34) = w4 := ⟨_, rfl⟩
  have hb34 : Below w3.heap.size w3 w4 := by rw [← hw4]; exact (Below.refl _ _).alloc (Nat.le_refl _) _
  have hV4 : At w4 n 34 #[.int .i64 v.hx, .int .i64 v.hy, .int .i64 v.cp, .int .i64 v.st, .int .i64 v.en] := by rw [← hw4]; exact At.new_ _ _ _ hn.symm
  have hb24 := hb3.trans (hb34.mono hb3.size)
  have hbB := hbA.trans (hb24.mono hbA.size)
  have hY4 := hY2.keep hb24 hY2.inside
  have hg4 := hg2.on hb24
  have hro4 := Lib.hid (hro.on hb34)
  have hqr4 := Lib.hid (hqr.on hb34)
  have hP4 := hP2.out.on hb24
  have hnw : n < w4.heap.size := hV4.inside
  have hqn : q + 1 < n := by have := hb3.size; omega
  have hl12 : Hid (l.length ≤ 12) := Lib.hid hlo
  have ht6 : Hid (t.length ≤ 6) := Lib.hid hlr
  have hw4' := Lib.hid hw4
  have hn' := Lib.hid hn
  clear hb3 hb34 hb24 hbA hY2 hg2 hP2 hro hqr hsm hlo hlr hch hv hw4 hn hq2
  go_upto_region 4 with fail
  try simp only [hn'.out]
  rw [hw4'.out]
  have y0 := hY4.cell 0
  have y1 := hY4.cell 1
  have y2 := hY4.cell 2
  have y3 := hY4.cell 3
  have v0 := hV4.cell 0
  have v1 := hV4.cell 1
  have v2 := hV4.cell 2
  have v3 := hV4.cell 3
  have v4 := hV4.cell 4
  simp at y0 y1 y2 y3 v0 v1 v2 v3 v4
  have hpu := pushed_any hDr.out hl12.out yb My cy ys A Wh M uo ur w4 hP4 hys'.out hA hWh hM hro4.out hqr4.out
  go_wp2_with fail
  refine hpu.mono ?_
  clear hpu y0 y1 y2 y3 v0 v1 v2 v3 v4 hY4 hP4 hys' hg4
  rintro e w5 ⟨⟨us, ts, rfl, hts, _, htl, _⟩, hb5⟩
  have hV5 := hV4.keep hb5 hV4.inside
  have hro5 := hro4.out.on hb5
  have hqr5 := hqr4.out.on hb5
  have hB5 := Lib.hid (hbB.trans (hb5.mono hbB.size))
  have hts5 := Lib.hid hts
  have htl' := Lib.hid htl
  have hcT := Times_all v uo ur l t (by have := hl12.out; omega) hnum.out w5 hro5 hqr5
  obtain ⟨E, hE⟩ : ∃ E, errT v l t = E := ⟨_, rfl⟩
  obtain ⟨H, hH⟩ : ∃ H, homeT v l t = H := ⟨_, rfl⟩
  rw [hE, hH] at hcT
  have hE' := Lib.hid hE
  have hro5' := Lib.hid hro5
  have hqr5' := Lib.hid hqr5
  have v0 := hV5.cell 0
  have v1 := hV5.cell 1
  have v2 := hV5.cell 2
  have v3 := hV5.cell 3
  have v4 := hV5.cell 4
  simp at v0 v1 v2 v3 v4
  clear hb5 hts htl hro5 hqr5 hV4 hro4 hqr4 hbB hE hH
  go_wp2_with fail
  refine hcT.mono ?_
  clear hcT v0 v1 v2 v3 v4
  rintro e w6 ⟨⟨ua, rfl, hu, -⟩, hb6⟩
  obtain ⟨xa, Na, ca, rfl, hNa, hca1, hca2, -⟩ := hu.opened
  obtain ⟨xs, Ns, cs, rfl, hNs, hcs1, hcs2, -⟩ := hts5.out.opened
  unfold maxLen at hca2 hcs2
  have hV6 := hV5.keep hb6 hV5.inside
  have hro6 := hro5'.out.on hb6
  have hqr6 := hqr5'.out.on hb6
  have hts6 := Lib.hid (hts5.out.on hb6)
  have hB6 := Lib.hid (hB5.out.trans (hb6.mono hB5.out.size))
  have hu6 := Lib.hid hu
  have hNa' := Lib.hid hNa
  have hNs' := Lib.hid hNs
  have hcC := Check_any v uo ur l t (by have := hl12.out; omega) hnum.out w6 hro6 hqr6
  obtain ⟨B, hB⟩ : ∃ B, decide ((faultV v l t).1 = 0) = B := ⟨_, rfl⟩
  have hB' := Lib.hid hB
  have hro6' := Lib.hid hro6
  have hqr6' := Lib.hid hqr6
  have hV6' := Lib.hid hV6
  clear hb6 hu hNa hNs hro6 hqr6 hro5' hqr5' hV5 hts5 hB5 hB
  go_upto_region 6 with fail
  have v0 := hV6.cell 0
  have v1 := hV6.cell 1
  have v2 := hV6.cell 2
  have v3 := hV6.cell 3
  have v4 := hV6.cell 4
  simp at v0 v1 v2 v3 v4
  clear hV6
  go_cut [12] from 35 to 39 (fun s wx => s = .bool B ∧ Below w6.heap.size w6 wx)
  case first =>
    go_wp2_with fail
    refine hcC.mono ?_
    clear hcC v0 v1 v2 v3 v4
    rintro e w7 ⟨⟨u, rfl, hu⟩, hb7⟩
    rcases hu with ⟨h1, rfl⟩ | ⟨h1, q1, rfl, -⟩
    · obtain rfl : B = true := by rw [← hB'.out]; exact decide_eq_true h1
      clear h1
      go_wp2
      all_goals go_meet
      exact ⟨rfl, hb7⟩
    · obtain rfl : B = false := by rw [← hB'.out]; exact decide_eq_false h1
      clear h1
      go_wp2
      all_goals go_meet
      exact ⟨rfl, hb7⟩
  case rest =>
  clear hcC v0 v1 v2 v3 v4
  obtain ⟨rfl, hb7⟩ := hcut
  obtain ⟨w7, rfl⟩ : ∃ w7, w7 = wc := ⟨_, rfl⟩
  have hV7 := Lib.hid (hV6'.out.keep hb7 hV6'.out.inside)
  have hro7 := Lib.hid (hro6'.out.on hb7)
  have hqr7 := Lib.hid (hqr6'.out.on hb7)
  have hts7 := Lib.hid (hts6.out.on hb7)
  have hu7 := Lib.hid (hu6.out.on hb7)
  have hB7 := Lib.hid (hB6.out.trans (hb7.mono hB6.out.size))
  clear hb7 hV6' hro6' hqr6' hts6 hu6 hB6
  cases he0 : (E == 0)
  · have he1 : (E != 0) = true := by simpa using he0
    have hE0 : errT v l t ≠ 0 := by rw [hE'.out]; simpa using he0
    obtain rfl : B = false := by rw [← hB'.out]; exact decide_eq_false (err_fault hDr.out hE0)
    have hRf : rightB v l t ts = false := by
      cases h : rightB v l t ts
      · rfl
      · exact absurd (right_some hDr.out h).2.1 hE0
    have hcR := Right_any v uo ur _ l t ts (by have := hl12.out; omega) hnum.out w7 hro7.out hqr7.out hts7.out
    rw [hRf] at hcR
    have v0 := hV7.out.cell 0
    have v1 := hV7.out.cell 1
    have v2 := hV7.out.cell 2
    have v3 := hV7.out.cell 3
    have v4 := hV7.out.cell 4
    have hvi := hV7.out.inside
    simp at v0 v1 v2 v3 v4
    clear hE0 hRf
    go_wp2_with fail
    refine hcR.mono ?_
    clear hcR v0 v1 v2 v3 v4
    rintro e w8 ⟨rfl, hb8⟩
    have hB8 := hB7.out.trans (hb8.mono hB7.out.size)
    clear hb8
    go_wp2
    go_ret
    exact ⟨rfl, hB8⟩
  · have he1 : (E != 0) = false := by simpa using he0
    have hE0 : errT v l t = 0 := by rw [hE'.out]; simpa using he0
    have hRa : rightB v l t (timesL v l t) = B := by rw [early_right hDr.out hE0]; exact hB'.out
    have hcR := Right_any v uo ur _ l t _ (by have := hl12.out; omega) hnum.out w7 hro7.out hqr7.out hu7.out
    rw [hRa] at hcR
    have v0 := hV7.out.cell 0
    have v1 := hV7.out.cell 1
    have v2 := hV7.out.cell 2
    have v3 := hV7.out.cell 3
    have v4 := hV7.out.cell 4
    simp at v0 v1 v2 v3 v4
    have hne : (B != B) = false := by cases B <;> rfl
    clear hRa
    go_wp2_with fail
    refine hcR.mono ?_
    clear hcR v0 v1 v2 v3 v4
    rintro e w8 ⟨rfl, hb8⟩
    have hV8 := hV7.out.keep hb8 hV7.out.inside
    have hts8 := Lib.hid (hts7.out.on hb8)
    have hu8 := Lib.hid (hu7.out.on hb8)
    have hB8 := Lib.hid (hB7.out.trans (hb8.mono hB7.out.size))
    have hcR := Right_any v uo ur _ l t ts (by have := hl12.out; omega) hnum.out w8 (hro7.out.on hb8) (hqr7.out.on hb8) hts8.out
    obtain ⟨R, hR⟩ : ∃ R, rightB v l t ts = R := ⟨_, rfl⟩
    rw [hR] at hcR
    have hR' := Lib.hid hR
    have v0 := hV8.cell 0
    have v1 := hV8.cell 1
    have v2 := hV8.cell 2
    have v3 := hV8.cell 3
    have v4 := hV8.cell 4
    simp at v0 v1 v2 v3 v4
    clear hb8 hts7 hu7 hB7 hV7 hro7 hqr7 hR
    go_wp2_with fail
    refine hcR.mono ?_
    clear hcR v0 v1 v2 v3 v4 hV8
    rintro e w9 ⟨rfl, hb9⟩
    have hts9 := Lib.hid (hts8.out.on hb9)
    have hu9 := Lib.hid (hu8.out.on hb9)
    have hB9 := Lib.hid (hB8.out.trans (hb9.mono hB8.out.size))
    clear hb9 hts8 hu8 hB8
    cases R
    · clear hu9 hts9
      go_wp2
      go_ret
      exact ⟨rfl, hB9.out⟩
    · obtain ⟨hf, -, hle⟩ := right_some hDr.out hR'.out
      obtain rfl : B = true := by rw [← hB'.out]; exact decide_eq_true hf
      obtain ⟨hl1, hl2⟩ := hle.get
      obtain rfl : Na = Ns := by rw [← hNa'.out, ← hNs'.out]; exact hl1
      have hle' := Lib.hid hl2
      have hnn : decide ((Na : Int) = Na) = true := by simp
      clear hf hle hl1 hl2 hne
      go_wp2
      go_loopw [13] (fun i wr => ∃ k : Nat, i = .int .i64 k ∧ k ≤ Na ∧ Below w9.heap.size w9 wr) (fun i _ => Na - (intOf i).toNat)
      case atStart => exact ⟨0, rfl, Nat.zero_le _, Below.refl _ _⟩
      case round =>
        obtain ⟨k, rfl, hk, hb10⟩ := hrel
        have hb10' := Lib.hid hb10
        clear hb10
        by_cases hlt : k < Na
        · have hlti : (k : Int) < Na := by omega
          obtain ⟨y, hy⟩ : ∃ y, (timesL v l t)[k]? = some y := ⟨_, List.getElem?_eq_getElem (by rw [hNa'.out]; exact hlt)⟩
          obtain ⟨z, hz⟩ : ∃ z, ts[k]? = some z := ⟨_, List.getElem?_eq_getElem (by rw [hNs'.out]; exact hlt)⟩
          obtain ⟨l1, l2, l3⟩ := hle'.out k y z hy hz
          obtain ⟨ga, oa, rfl, hga, a0, a1, a2⟩ := Tms.at (hu9.out.on hb10'.out) hy
          obtain ⟨gs, os, rfl, hgs, s0, s1, s2⟩ := Tms.at (hts9.out.on hb10'.out) hz
          have g1 : decide (z.ar < y.ar) = false := decide_eq_false (by omega)
          have g2 : decide (z.be < y.be) = false := decide_eq_false (by omega)
          have g3 : decide (z.lv < y.lv) = false := decide_eq_false (by omega)
          have g1' : ¬ (z.ar < y.ar) := by omega
          have g2' : ¬ (z.be < y.be) := by omega
          have g3' : ¬ (z.lv < y.lv) := by omega
          clear hy hz
          go_upto_region 16 with fail
          go_quiet (fail)
          go_wp2_with fail
          exact ⟨⟨k + 1, by simp, hlt, below_drewN hb10'.out nq⟩, by simp only [intOf]; omega⟩
        · obtain rfl : k = Na := by omega
          have hBz := hB9.out.trans (hb10'.out.mono hB9.out.size)
          go_wp2
          go_ret
          exact ⟨rfl, hBz⟩

end Go.Proofs.YteefkijmodcijaaDoor.feasSome

/-
  What the rows' listed variable gives a walk; a world in which it is laid.
-/
namespace Go.Proofs.YteefkijmodcijaaDoor.Laid
open Go.ChangeShapes Go.WideShapes Go.RowKit Go.Proofs.YteefkijmodcijaaDoor.Feas

abbrev lst {H : Type} : List (String × DataW H) := [("errors.errorType", Rows.laid_errors_errorType)]
theorem et : Tryd.prog.globalNamed "errors.errorType" = some 1 := by kernel_rfl
theorem rt : (Tryd.prog.cutTypes.find? (·.1 == "internal/reflectlite.rtype")).map (·.2) = some 168 := by kernel_rfl
theorem oneRow : ((List.range Tryd.prog.types.size).filter fun t => Tryd.prog.rowNamed t [101, 114, 114, 111, 114]) = [49] := by kernel_rfl

/-- The variable's one cell. -/
theorem hd_of_laid {W : World} (h : laidMetH Tryd.prog [("errors.errorType", Rows.laid_errors_errorType)] W) : Hd W := by
  have h' : laidMet Tryd.prog [] W ∧ handlesMet Tryd.prog [("errors.errorType", Rows.laid_errors_errorType)] W := h
  obtain ⟨name, u, ty, e1, e2, e3, e4, e5⟩ := h'.2 _ (List.mem_singleton.2 rfl)
  have en : name = [101, 114, 114, 111, 114] := (Option.some.inj e1).symm
  subst en
  obtain rfl := Option.some.inj (rt.symm.trans e2)
  have hm : ty ∈ (List.range Tryd.prog.types.size).filter fun t => Tryd.prog.rowNamed t [101, 114, 114, 111, 114] := List.mem_filter.2 ⟨List.mem_range.2 e3, e4⟩
  rw [oneRow] at hm
  obtain rfl := List.mem_singleton.1 hm
  have hh : typeHandle Tryd.prog 49 = .pointer (some ⟨2, 49, none⟩) := by kernel_rfl
  rw [hh] at e5
  unfold Hd errHandle
  simpa using World.var?_cell et e5 0

/-- A world that meets the condition. -/
noncomputable def laidWorld (os : Os) : World :=
  let w0 := World.holding Tryd.prog os ⟨#[], #[], []⟩
  { w0 with heap := w0.heap.modify 1 fun
      | .cells _ t frozen => .cells #[.iface 168 (.agg #[.pointer (some ⟨2, 49, none⟩)])] t frozen
      | o => o }
theorem laidWorld_met (os : Os) (args : Array Value) : laidMetH Tryd.prog [("errors.errorType", Rows.laid_errors_errorType)] ((laidWorld os).forCall (fun _ _ => 0) ⟨#[], args, []⟩).memory :=
  laidMetH_of_parts (laidMet_nil _ _) (by kernel_rfl)

end Go.Proofs.YteefkijmodcijaaDoor.Laid

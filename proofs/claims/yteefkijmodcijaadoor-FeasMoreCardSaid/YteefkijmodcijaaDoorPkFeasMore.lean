import Derived.Test.YteefkijmodcijaaDoorPkFeasMix
import Derived.Test.YteefkijmodcijaaDoorPkFeasMoreMath
import Derived.Test.YteefkijmodcijaaDoorPkFeasCheck
import Derived.Test.YteefkijmodcijaaDoorPkFeasWorks2

/-
  FeasMore returns true, whatever the draft, the times, by how much and memory are. Its condition: errors.errorType holds its handle.
-/
namespace Go.Proofs.YteefkijmodcijaaDoor.feasMore
open Go.ChangeShapes Go.WideShapes Go.ChangeAt Go.RowKit Go.Sort Go.Proofs.YteefkijmodcijaaDoor.Mem Go.Proofs.YteefkijmodcijaaDoor.Route Go.Proofs.YteefkijmodcijaaDoor.When Go.Proofs.YteefkijmodcijaaDoor.Feas
set_option linter.unusedVariables false

set_option maxRecDepth 100000 in
set_option maxHeartbeats 8000000 in
theorem walk (xb : Option Addr) (Nb cb : Nat) (bs : List Int) (a b c : Int) (hby : ∀ x ∈ bs, 0 ≤ x ∧ x < 256) (ha : 0 ≤ a ∧ a < 256) (hb : 0 ≤ b ∧ b < 256) (yb : Option Addr) (My cy : Nat) (ys : List Int) (A Wh M : Int) (hys : ∀ x ∈ ys, 0 ≤ x ∧ x < 256) (hA : 0 ≤ A ∧ A < 256) (hWh : 0 ≤ Wh ∧ Wh < 256) (hM : -128 ≤ M ∧ M < 128) (b0 b1 b2 b3 : Int) (h0 : 0 ≤ b0 ∧ b0 < 256) (h1 : 0 ≤ b1 ∧ b1 < 256) (h2 : 0 ≤ b2 ∧ b2 < 256) (h3 : 0 ≤ b3 ∧ b3 < 256) (w : World) (hg : Hd w)
    (hD : RowB w.heap.size w (.slice xb Nb cb) 1 (bs.map byV)) (hP : RowB w.heap.size w (.slice yb My cy) 1 (ys.map byV)) :
    Calls Tryd.prog 7 #[.agg #[.slice xb Nb cb, .int .u8 a, .int .u8 b, .int .i64 c], .agg #[.slice yb My cy, .int .u8 A, .int .u8 Wh, .int .i8 M], .agg #[.int .u8 b0, .int .u8 b1, .int .u8 b2, .int .u8 b3]] w fun e w' => e = .returned (.bool true) ∧ Below w.heap.size w w' := by
  obtain ⟨q, hq⟩ : ∃ q, w.heap.size = q := ⟨_, rfl⟩
  obtain ⟨w1, hw1⟩ : ∃ w1, ((w.alloc (.cells #[.slice xb Nb cb, .int .u8 a, .int .u8 b, .int .i64 c] 24)).alloc (.cells #[.slice yb My cy, .int .u8 A, .int .u8 Wh, .int .i8 M] 27)).alloc (.cells #[.int .u8 b0, .int .u8 b1, .int .u8 b2, .int .u8 b3] 58) = w1 := ⟨_, rfl⟩
  have hX1 : At w1 q 24 #[.slice xb Nb cb, .int .u8 a, .int .u8 b, .int .i64 c] := by rw [← hw1]; exact ((At.new_ _ _ _ hq.symm).alloc _).alloc _
  have hY1 : At w1 (q + 1) 27 #[.slice yb My cy, .int .u8 A, .int .u8 Wh, .int .i8 M] := by rw [← hw1]; exact (At.new_ _ _ _ (by simp [hq])).alloc _
  have hZ1 : At w1 (q + 1 + 1) 58 #[.int .u8 b0, .int .u8 b1, .int .u8 b2, .int .u8 b3] := by rw [← hw1]; exact At.new_ _ _ _ (by simp [hq])
  have hb1 : Below w.heap.size w w1 := by rw [← hw1]; exact (((Below.refl _ _).alloc (by omega) _).alloc (by simp) _).alloc (by simp <;> omega) _
  have hs1 : q + 1 < w1.heap.size := hY1.inside
  have hg1 := hg.on hb1
  have hD1 := Lib.hid (RowB.on hD hb1)
  have hP1 := Lib.hid (RowB.on hP hb1)
  have hby' := Lib.hid hby
  have hys' := Lib.hid hys
  have hw1' := Lib.hid hw1
  have hq' := Lib.hid hq
  clear hD hP hby hys hw1 hg hq
  obtain ⟨iq, hiq, hq0, hq1, hq2⟩ := info_parts info_request
  go_enter Tryd.func7, Tryd.ntmps7
  go_upto_region 1 with fail
  first | rw [hw1'.out] | (simp only [hq'.out]; rw [hw1'.out])
  go_wp2_with fail
  refine (works_any _ hg1).mono ?_
  rintro e w2 ⟨rfl, hb2⟩
  have hg2 := hg1.on hb2
  have hX2 := hX1.keep hb2 hX1.inside
  have hY2 := hY1.keep hb2 hY1.inside
  have hZ2 := hZ1.keep hb2 hZ1.inside
  have hbA := hb1.trans (hb2.mono hb1.size)
  have hp := parts_any xb Nb cb bs a b c _ (RowB.on hD1.out hb2) hby'.out ha hb
  have hP2 := Lib.hid (RowB.on hP1.out hb2)
  have hq2 : q + 1 < w2.heap.size := hY2.inside
  have x0 := hX2.cell 0
  have x1 := hX2.cell 1
  have x2 := hX2.cell 2
  have x3 := hX2.cell 3
  simp at x0 x1 x2 x3
  try simp only [hq'.out]
  clear hX1 hY1 hZ1 hb1 hb2 hD1 hP1 hby' ha hb hg1 hs1 hw1'
  go_wp2_with fail
  refine hp.mono ?_
  clear hp x0 x1 x2 x3 hX2
  rintro e w3 ⟨⟨v, uo, ur, l, t, rfl, hv, hro, hsm, hlo, hqr, hlr, hch⟩, hb3⟩
  have hDr : Hid (Dr v l t) := Lib.hid (Dr.of hv hsm hlo hch)
  have hnum : Hid (Nums l) := Lib.hid (Dr.nums (v := v) (t := t) hsm)
  have hvd := Lib.hid hv
  have hfine := Lib.hid hsm
  have hdr := Lib.hid hch
  obtain ⟨n, hn⟩ : ∃ n, w3.heap.size = n := ⟨_, rfl⟩
  obtain ⟨w4, hw4⟩ : ∃ w4, w3.alloc (.cells #[.int .i64 v.hx, .int .i64 v.hy, .int .i64 v.cp, .int .i64 v.st, .int .i64 v.en] 34) = w4 := ⟨_, rfl⟩
  have hb34 : Below w3.heap.size w3 w4 := by rw [← hw4]; exact (Below.refl _ _).alloc (Nat.le_refl _) _
  have hV4 : At w4 n 34 #[.int .i64 v.hx, .int .i64 v.hy, .int .i64 v.cp, .int .i64 v.st, .int .i64 v.en] := by rw [← hw4]; exact At.new_ _ _ _ hn.symm
  have hb24 := hb3.trans (hb34.mono hb3.size)
  have hbB := hbA.trans (hb24.mono hbA.size)
  have hY4 := hY2.keep hb24 hY2.inside
  have hZ4 := hZ2.keep hb24 hZ2.inside
  have hg4 := hg2.on hb24
  have hro4 := Lib.hid (hro.on hb34)
  have hqr4 := Lib.hid (hqr.on hb34)
  have hP4 := hP2.out.on hb24
  have hnw : n < w4.heap.size := hV4.inside
  have hqn : q + 1 < n := by have := hb3.size; omega
  have hl12 : Hid (l.length ≤ 12) := Lib.hid hlo
  have ht6 : Hid (t.length ≤ 6) := Lib.hid hlr
  have hw4' := Lib.hid hw4
  have hn' := Lib.hid hn
  clear hb3 hb34 hb24 hbA hY2 hZ2 hg2 hP2 hro hqr hsm hlo hlr hch hv hw4 hn hq2
  go_upto_region 4 with fail
  try simp only [hn'.out]
  rw [hw4'.out]
  have y0 := hY4.cell 0
  have y1 := hY4.cell 1
  have y2 := hY4.cell 2
  have y3 := hY4.cell 3
  have v0 := hV4.cell 0
  have v1 := hV4.cell 1
  have v2 := hV4.cell 2
  have v3 := hV4.cell 3
  have v4 := hV4.cell 4
  simp at y0 y1 y2 y3 v0 v1 v2 v3 v4
  have hpu := pushed_any hDr.out hl12.out yb My cy ys A Wh M uo ur w4 hP4 hys'.out hA hWh hM hro4.out hqr4.out
  go_wp2_with fail
  refine hpu.mono ?_
  clear hpu y0 y1 y2 y3 v0 v1 v2 v3 v4 hY4 hP4 hys' hg4 hA hWh hM
  rintro e w5 ⟨⟨us, ts, rfl, hts, _, htl, _⟩, hb5⟩
  obtain ⟨xr, Nr, cr, rfl, hNr0, hrc1, hrc2, _⟩ := hqr4.out.opened
  have hNr := Lib.hid hNr0
  have hNr6 : Nr ≤ 6 := by rw [← hNr0]; exact ht6.out
  unfold maxLen at hrc2
  have hV5 := hV4.keep hb5 hV4.inside
  have hZ5 := Lib.hid (hZ4.keep hb5 hZ4.inside)
  have hro5 := Lib.hid (hro4.out.on hb5)
  have hqr5 := Lib.hid (hqr4.out.on hb5)
  have hB5 := Lib.hid (hbB.trans (hb5.mono hbB.size))
  have hts5 := Lib.hid hts
  have htl' := Lib.hid htl
  have hpl := Lib.hid (rqs_plain hqr5.out)
  have hn5 : n < w5.heap.size := hV5.inside
  have hmore := Lib.hid (more_all hDr.out hvd.out hdr.out h0 h1 h2 h3)
  obtain ⟨h01, h02⟩ := h0
  obtain ⟨h11, h12⟩ := h1
  obtain ⟨h21, h22⟩ := h2
  obtain ⟨h31, h32⟩ := h3
  clear hb5 hts htl hro4 hqr4 hV4 hZ4 hbB hNr0 hnw ht6
  go_upto_region 5 with fail
  refine Sched.wp_region_sched 5 (fun W W' => Below W.heap.size W W') (VK [.val (.agg #[.int .i64 v.hx, .int .i64 v.hy, .int .i64 v.cp, .int .i64 v.st, .int .i64 v.en]), .of (EmptyAt w5.heap.size 62 10) (fun h hb => h.keep hb), .val (.slice xr Nr cr), .of (RowAt w5.heap.size 62 10 Nr (flatQ t)) (fun h hb => h.keep hb), .of (fun v w => ∃ g : Nat, v = .pointer (some ⟨g, 0, none⟩) ∧ w5.heap.size ≤ g ∧ At w g 34 #[.int .i64 0, .int .i64 0, .int .i64 0, .int .i64 0, .int .i64 0]) (fun ⟨g, e, hg, h⟩ hb => ⟨g, e, hg, h.keep hb h.inside⟩)]) (fun _ _ _ => True) (by kernel_rfl) (by kernel_rfl) (by kernel_rfl) (fun h1 h2 => belowTr h1 h2) (fun h1 h2 => VK.keep h1 h2) (Below.refl _ _).drew (fun _ => trivial) (Sched.StepsA.steps (by kernel_rfl) ?hSA) ?hQA
  case hSA =>
   simp only [List.take_succ_cons, List.take_zero]
   refine ⟨?_, ?_, ?_, ?_, ?_, trivial⟩
   · intro ys done W aa hE hn hF hD hZ hG hO
     replace hE : Below w5.heap.size w5 W := hE
     have o7 := hO 7 (by kernel_rfl)
     replace o7 : aa.tmps[7]? = some (.pointer (some ⟨n, 0, none⟩)) := o7
     have hAt := hV5.keep hE hV5.inside
     have p0 := hAt.cell 0
     have p1 := hAt.cell 1
     have p2 := hAt.cell 2
     have p3 := hAt.cell 3
     have p4 := hAt.cell 4
     simp at p0 p1 p2 p3 p4
     clear hAt
     go_wp2_with fail
     first | exact ⟨_, rfl, Below.refl _ _, VK.val rfl rfl, trivial⟩ | exact ⟨_, rfl, Below.refl _ _, VK.val rfl rfl⟩
   · intro ys done W aa hE hn hF hD hZ hG hO
     replace hE : Below w5.heap.size w5 W := hE
     go_wp2_with fail
     first | exact ⟨_, rfl, (Below.refl _ _).alloc (Nat.le_refl _) _, VK.of rfl ⟨_, rfl, ownsEmptyQ rfl hE.size⟩, trivial⟩ | exact ⟨_, rfl, (Below.refl _ _).alloc (Nat.le_refl _) _, VK.of rfl ⟨_, rfl, ownsEmptyQ rfl hE.size⟩⟩
   · intro ys done W aa hE hn hF hD hZ hG hO
     replace hE : Below w5.heap.size w5 W := hE
     have o9 := hO 9 (by kernel_rfl)
     replace o9 : aa.tmps[9]? = some (.slice xr Nr cr) := o9
     go_wp2_with fail
     first | exact ⟨_, rfl, Below.refl _ _, VK.val rfl rfl, trivial⟩ | exact ⟨_, rfl, Below.refl _ _, VK.val rfl rfl⟩
   · intro ys done W aa hE hn hF hD hZ hG hO
     replace hE : Below w5.heap.size w5 W := hE
     have v1 := (hF 1 (by decide) (hD 1 (by kernel_rfl))).get rfl
     have g1 := hG 1 28 rfl (Nat.le_of_ble_eq_true rfl)
     have v2 := (hF 2 (by decide) (hD 2 (by kernel_rfl))).eq rfl
     have g2 := hG 2 29 rfl (Nat.le_of_ble_eq_true rfl)
     rw [v2] at g2
     obtain ⟨ge, hge, hoe⟩ := v1
     rw [hge] at g1 hoe
     have hqW := hqr5.out.on hE
     refine wpList_append_fresh rfl (.tmp 28) (.tmp 29) 29 rfl w5.heap.size 62 iq (.agg #[.int .i64 0, .int .i64 0, .int .i64 0, .int .i64 0, .int .i64 0, .int .i64 0, .int .i64 0, .int .i64 0, .int .i64 0, .int .i64 0]) 10 80 Tryd.underlying29 hiq hq0 hq1 hq2 rfl (by decide) ge (show aa.tmps.getD 28 undef = _ by simp [g1]) hoe _ Nr ⟨_, _, rfl⟩ hpl.out (flatQ t) (show aa.tmps.getD 29 undef = _ by simp [g2]) (by rw [flatQ_length, hNr.out]) (fun ad c e => by simp only [Value.slice.injEq] at e; obtain ⟨rfl, -, rfl⟩ := e; exact rqs_flat hqW) flatQ_one (by unfold maxLen; omega) (by omega) hE.size ?_
     intro v' W' hv' hb'
     go_wp2_with fail
     have hv2 : RowAt w5.heap.size 62 10 Nr (flatQ t) v' W' := hv'
     exact ⟨_, rfl, VK.of rfl hv2⟩
   · intro ys done W aa hE hn hF hD hZ hG hO
     replace hE : Below w5.heap.size w5 W := hE
     go_wp2_with fail
     first | exact ⟨_, rfl, (Below.refl _ _).alloc (Nat.le_refl _) _, VK.of rfl ⟨_, rfl, hE.size, At.new _ _ _⟩, trivial⟩ | exact ⟨_, rfl, (Below.refl _ _).alloc (Nat.le_refl _) _, VK.of rfl ⟨_, rfl, hE.size, At.new _ _ _⟩⟩
  case hQA =>
   intro ys w6 hE hF _
   replace hE : Below w5.heap.size w5 w6 := hE
   have v0 := (hF 0 (by decide)).eq rfl
   have v3 := (hF 3 (by decide)).get rfl
   have v4 := (hF 4 (by decide)).get rfl
   obtain ⟨g6, e4, hg6, hA6⟩ := v4
   obtain ⟨x6, c6, e3, hc61, hc62⟩ := owns_slice v3
   unfold maxLen at hc61
   replace v3 : w6.ownsRow w5.heap.size 62 10 (ys 3) Nr (flatQ t) := v3
   rw [e3] at v3
   have hV6 := Lib.hid (hV5.keep hE hV5.inside)
   have hZ6 := Lib.hid (hZ5.out.keep hE hZ5.out.inside)
   have hB56 := Lib.hid hE
   have v3' := Lib.hid v3
   have hA6' := Lib.hid hA6
   simp only [List.take_succ_cons, List.take_zero, List.drop_succ_cons, List.drop_zero, Sched.fill, v0, e3, e4]
   have z0 := hA6.cell 0
   have z1 := hA6.cell 1
   have z2 := hA6.cell 2
   have z3 := hA6.cell 3
   have z4 := hA6.cell 4
   have zf := hA6.free
   simp at z0 z1 z2 z3 z4
   have hg6i : g6 < w6.heap.size := hA6.inside
   have hV5' := Lib.hid hV5
   have hZ5' := hZ5
   clear hF v0 v3 e3 e4 hA6 hV5 hZ5 hE
   go_simp
   go_upto_region 6 with fail
   have hA7 : At (((((w6.setCell ⟨g6, 0, none⟩ (.int .i64 v.hx)).setCell ⟨g6, 1, none⟩ (.int .i64 v.hy)).setCell ⟨g6, 2, none⟩ (.int .i64 v.cp)).setCell ⟨g6, 3, none⟩ (.int .i64 v.st)).setCell ⟨g6, 4, none⟩ (.int .i64 v.en)) g6 34 #[.int .i64 v.hx, .int .i64 v.hy, .int .i64 v.cp, .int .i64 v.st, .int .i64 v.en] := by
     have := ((((hA6'.out.put 0 (.int .i64 v.hx)).put 1 (.int .i64 v.hy)).put 2 (.int .i64 v.cp)).put 3 (.int .i64 v.st)).put 4 (.int .i64 v.en)
     simpa using this
   have hb7 : Below w5.heap.size w5 (((((w6.setCell ⟨g6, 0, none⟩ (.int .i64 v.hx)).setCell ⟨g6, 1, none⟩ (.int .i64 v.hy)).setCell ⟨g6, 2, none⟩ (.int .i64 v.cp)).setCell ⟨g6, 3, none⟩ (.int .i64 v.st)).setCell ⟨g6, 4, none⟩ (.int .i64 v.en)) :=
     ((((hB56.out.setCell (by exact hg6) _).setCell (by exact hg6) _).setCell (by exact hg6) _).setCell (by exact hg6) _).setCell (by exact hg6) _
   have hgx' := rowApartAt v3'.out hA6'.out (by decide)
   have ho7 := ownsFar (ownsFar (ownsFar (ownsFar (ownsFar v3'.out hgx' 0 (.int .i64 v.hx)) hgx' 1 (.int .i64 v.hy)) hgx' 2 (.int .i64 v.cp)) hgx' 3 (.int .i64 v.st)) hgx' 4 (.int .i64 v.en)
   generalize ((((w6.setCell ⟨g6, 0, none⟩ (.int .i64 v.hx)).setCell ⟨g6, 1, none⟩ (.int .i64 v.hy)).setCell ⟨g6, 2, none⟩ (.int .i64 v.cp)).setCell ⟨g6, 3, none⟩ (.int .i64 v.st)).setCell ⟨g6, 4, none⟩ (.int .i64 v.en) = w7 at hA7 hb7 ho7 ⊢
   have hvb := hDr.out.hv
   unfold Vh.chk at hvb
   rw [Order.veh_iff] at hvb
   obtain ⟨-, ⟨hc1, hc2⟩, ⟨hs1, hs2⟩, he1, he2⟩ := hvb
   have hc3 : v.cp ≤ 1000 := hvd.out.2.2
   have he3 : v.en ≤ 2000 := hvd.out.2.1
   have hng : n ≠ g6 := by omega
   have hqg : q + 1 + 1 ≠ g6 := by omega
   have hho := Lib.hid ho7
   have hhb := Lib.hid hb7
   have hhx := Lib.hid hgx'
   have hV7 := hV6.out
   clear hgx' ho7 z0 z1 z2 z3 z4 zf hA6' v3' hV6 hZ6 hB56
   have hVx := hV5'.out.keep hhb.out hV5'.out.inside
   have hZx := hZ5'.out.keep hhb.out hZ5'.out.inside
   have p2 := hVx.cell 2
   have y0 := hZx.cell 0
   have a2 := hA7.cell 2
   have af := hA7.free 2
   simp at p2 y0 a2
   clear hVx hZx
   go_upto_region 7 with fail
   have hA8 := hA7.put 2 (.int .i64 (v.cp + b0))
   simp at hA8
   have hb8 := Lib.hid (hhb.out.setCell (p := ⟨g6, 2, none⟩) (by exact hg6) (.int .i64 (v.cp + b0)))
   have ho8 := Lib.hid (ownsFar hho.out hhx.out 2 (.int .i64 (v.cp + b0)))
   clear hA7 hhb hho p2 y0 a2 af
   generalize w7.setCell ⟨g6, 2, none⟩ (.int .i64 (v.cp + b0)) = w8 at hA8 hb8 ho8 ⊢
   have hA7 := hA8
   have hhb := hb8
   have hho := ho8
   clear hA8 hb8 ho8
   have hVx := hV5'.out.keep hhb.out hV5'.out.inside
   have hZx := hZ5'.out.keep hhb.out hZ5'.out.inside
   have p3 := hVx.cell 3
   have y1 := hZx.cell 1
   have a3 := hA7.cell 3
   have af := hA7.free 3
   simp at p3 y1 a3
   clear hVx hZx
   go_upto_region 8 with fail
   have hA8 := hA7.put 3 (.int .i64 (max 0 (v.st - b1)))
   simp at hA8
   have hb8 := Lib.hid (hhb.out.setCell (p := ⟨g6, 3, none⟩) (by exact hg6) (.int .i64 (max 0 (v.st - b1))))
   have ho8 := Lib.hid (ownsFar hho.out hhx.out 3 (.int .i64 (max 0 (v.st - b1))))
   clear hA7 hhb hho p3 y1 a3 af
   generalize w8.setCell ⟨g6, 3, none⟩ (.int .i64 (max 0 (v.st - b1))) = w9 at hA8 hb8 ho8 ⊢
   have hA7 := hA8
   have hhb := hb8
   have hho := ho8
   clear hA8 hb8 ho8
   have hVx := hV5'.out.keep hhb.out hV5'.out.inside
   have hZx := hZ5'.out.keep hhb.out hZ5'.out.inside
   have p4 := hVx.cell 4
   have y2 := hZx.cell 2
   have a4 := hA7.cell 4
   have af := hA7.free 4
   simp at p4 y2 a4
   clear hVx hZx
   go_upto_region 9 with fail
   have hA8 := hA7.put 4 (.int .i64 (v.en + b2))
   simp at hA8
   have hb8 := Lib.hid (hhb.out.setCell (p := ⟨g6, 4, none⟩) (by exact hg6) (.int .i64 (v.en + b2)))
   have ho8 := Lib.hid (ownsFar hho.out hhx.out 4 (.int .i64 (v.en + b2)))
   clear hA7 hhb hho p4 y2 a4 af
   generalize w9.setCell ⟨g6, 4, none⟩ (.int .i64 (v.en + b2)) = w10 at hA8 hb8 ho8 ⊢
   have hA7 := hA8
   have hhb := hb8
   have hho := ho8
   clear hA8 hb8 ho8
   have hV5k := hV5'
   have hcell := Lib.hid (fun W (hW : Below w5.heap.size w5 W) (k : Nat) (q0 : Rq) (hq : t[k]? = some q0) => Rqs.at (hqr5.out.keep hW (Nat.le_refl _)) hq)
   have hMV : At w10 g6 34 #[.int .i64 v.hx, .int .i64 v.hy, .int .i64 (v.cp + b0), .int .i64 (max 0 (v.st - b1)), .int .i64 (v.en + b2)] := by simpa using hA7
   have hw10 := hMV
   have hqd : Hid (∀ q ∈ t, (0 ≤ q.pe ∧ q.pe ≤ 8000) ∧ (0 ≤ q.pl ∧ q.pl ≤ 8000) ∧ (0 ≤ q.de ∧ q.de ≤ 8000) ∧ (0 ≤ q.dl ∧ q.dl ≤ 8000)) := Lib.hid (fun q hq => by
     obtain ⟨k1, k2, k3⟩ := hdr.out q hq
     unfold Rq.chk at k1
     rw [Order.chk_iff, Window.okB_iff, Window.okB_iff] at k1
     omega)
   clear hA7 hdr hvd hfine hV7 hhx
   go_wp2
   go_loopw [13] (fun i wr => ∃ k : Nat, i = .int .i64 k ∧ k ≤ Nr ∧ wr.ownsRow w5.heap.size 62 10 (.slice x6 Nr c6) Nr (flatQ (mixF (moreQ b0 b1 b3) t k)) ∧ At wr g6 34 #[.int .i64 v.hx, .int .i64 v.hy, .int .i64 (v.cp + b0), .int .i64 (max 0 (v.st - b1)), .int .i64 (v.en + b2)] ∧ Below w5.heap.size w5 wr) (fun i _ => Nr - (intOf i).toNat)
   case atStart => exact ⟨0, rfl, Nat.zero_le _, by rw [mixF_zero]; exact hho.out, hMV, hhb.out⟩
   case round =>
     obtain ⟨k, rfl, hk, hown, hAw, hbw⟩ := hrel
     clear hMV hw10 hho hhb
     by_cases hlt : k < Nr
     · have hlti : (k : Int) < Nr := by omega
       obtain ⟨q0, hq0k⟩ : ∃ q0, t[k]? = some q0 := ⟨t[k]'(by rw [hNr.out]; exact hlt), List.getElem?_eq_getElem _⟩
       obtain ⟨⟨j1, j2⟩, ⟨j3, j4⟩, ⟨j5, j6⟩, ⟨j7, j8⟩⟩ := hqd.out q0 (List.mem_of_getElem? hq0k)
       obtain ⟨gq, rfl, _⟩ : ∃ gq : Nat, x6 = some ⟨gq, 0, none⟩ ∧ Nr ≤ c6 := by
         rcases owns_parts hown with ⟨_, e0, _⟩ | e0
         · omega
         · exact e0
       obtain ⟨gt, ot, rfl, hgt, -⟩ := hcell.out wr hbw k q0 hq0k
       have hrq : Hid (∀ W, Below w5.heap.size w5 W → W.cell? ⟨gt, ot + k * 10 + 4, none⟩ = some (.int .i64 q0.pe) ∧ W.cell? ⟨gt, ot + k * 10 + 5, none⟩ = some (.int .i64 q0.pl) ∧ W.cell? ⟨gt, ot + k * 10 + 6, none⟩ = some (.int .i64 q0.de) ∧ W.cell? ⟨gt, ot + k * 10 + 7, none⟩ = some (.int .i64 q0.dl)) := Lib.hid (fun W hW => by
         obtain ⟨g', o', eg, _, _, _, _, _, c4, c5, c6, c7, _⟩ := hcell.out W hW k q0 hq0k
         cases eg
         exact ⟨c4, c5, c6, c7⟩)
       have hmg := mixF_get (f := moreQ b0 b1 b3) hq0k
       have hgb := owns_row hown gq rfl
       have hgq := own_lt hown gq rfl
       have hgg6 := rowApartAt hown hAw (by decide) gq rfl
       have hmg' := Lib.hid hmg
       have hown' := Lib.hid hown
       have hAw' := Lib.hid hAw
       have hbw' := Lib.hid hbw
       have hqk := Lib.hid hq0k
       clear hown hAw hbw hmg hq0k
       go_upto_region 12 with fail
       obtain ⟨c4, c5, c6', c7⟩ := hrq.out wr hbw'.out
       have hZx := hZ5'.out.keep hbw'.out hZ5'.out.inside
       have y0 := hZx.cell 3
       have y1 := hZx.cell 0
       simp at y0 y1
       have kc4 := cell_regrown c4
       have kc5 := cell_regrown c5
       have ky0 := cell_regrown y0
       have ky1 := cell_regrown y1
       clear hZx
       refine Tail.wp_region_below_tail 24 (by kernel_rfl) (by kernel_rfl) (by kernel_rfl) ?_
       simp only [List.take_succ_cons, List.take_zero, List.drop_succ_cons, List.drop_zero]
       repeat (go_big_quiet_step (fail))
       refine wpQuiet_nil ?_
       intro _ hw'
       obtain ⟨⟨dq, osq⟩, hw''⟩ := hw'
       subst hw''
       have hgr := below_regrown wr dq osq
       have hbw2 := hbw'.out.trans (hgr.mono hbw'.out.size)
       have hown2 := owns_below hown'.out hgr
       have hAw2 := hAw'.out.keep hgr hAw'.out.inside
       clear hgr c4 c5 c6' c7 y0 y1 kc4 kc5 ky0 ky1
       generalize grow (redrawn wr dq) osq = W9 at hbw2 hown2 hAw2 ⊢
       have d4 := hown2.cellAt (k * 10 + 4) (by omega)
       have d5 := hown2.cellAt (k * 10 + 5) (by omega)
       rw [flatQ_get hmg'.out 4 (by decide)] at d4
       rw [flatQ_get hmg'.out 5 (by decide)] at d5
       replace d4 : W9.cell? ⟨gq, k * 10 + 4, none⟩ = some (.int .i64 q0.pe) := d4
       replace d5 : W9.cell? ⟨gq, k * 10 + 5, none⟩ = some (.int .i64 q0.pl) := d5
       have f4 := hown2.frozenAt (k * 10 + 4)
       have f5 := hown2.frozenAt (k * 10 + 5)
       have hs1 := (hown2.stored (k * 10 + 4) (.int .i64 (max 0 (q0.pe - b3)))).1
       have hs2 := (hs1.stored (k * 10 + 5) (.int .i64 (q0.pl + b0))).1
       rw [pick_set hmg'.out] at hs2
       have hA9 := (hAw2.far (b := gq) (fun e => hgg6 e.symm) (k * 10 + 4) (.int .i64 (max 0 (q0.pe - b3)))).far (b := gq) (fun e => hgg6 e.symm) (k * 10 + 5) (.int .i64 (q0.pl + b0))
       have hb9 := (hbw2.setCell (p := ⟨gq, k * 10 + 4, none⟩) (by exact hgb) (.int .i64 (max 0 (q0.pe - b3)))).setCell (p := ⟨gq, k * 10 + 5, none⟩) (by exact hgb) (.int .i64 (q0.pl + b0))
       have hs2' := Lib.hid hs2
       have hA9' := Lib.hid hA9
       have hb9' := Lib.hid hb9
       clear hs1 hs2 hA9 hb9 hown2 hAw2 hbw2
       go_upto_region 13 with fail
       generalize (W9.setCell ⟨gq, k * 10 + 4, none⟩ (.int .i64 (max 0 (q0.pe - b3)))).setCell ⟨gq, k * 10 + 5, none⟩ (.int .i64 (q0.pl + b0)) = w13 at hs2' hA9' hb9' ⊢
       clear hown' hAw' hbw' d4 d5 f4 f5
       have hmg2 := Lib.hid (set_get (q' := pickQ q0 (max 0 (q0.pe - b3)) (q0.pl + b0)) hmg'.out)
       have hown' := hs2'
       have hAw' := hA9'
       have hbw' := hb9'
       clear hs2' hA9' hb9'
       go_upto_region 13 with fail
       obtain ⟨c4, c5, c6', c7⟩ := hrq.out w13 hbw'.out
       have hZx := hZ5'.out.keep hbw'.out hZ5'.out.inside
       have y0 := hZx.cell 1
       have y1 := hZx.cell 3
       simp at y0 y1
       have kc4 := cell_regrown c6'
       have kc5 := cell_regrown c7
       have ky0 := cell_regrown y0
       have ky1 := cell_regrown y1
       clear hZx
       refine Tail.wp_region_below_tail 24 (by kernel_rfl) (by kernel_rfl) (by kernel_rfl) ?_
       simp only [List.take_succ_cons, List.take_zero, List.drop_succ_cons, List.drop_zero]
       repeat (go_big_quiet_step (fail))
       refine wpQuiet_nil ?_
       intro _ hw'
       obtain ⟨⟨dq, osq⟩, hw''⟩ := hw'
       subst hw''
       have hgr := below_regrown w13 dq osq
       have hbw2 := hbw'.out.trans (hgr.mono hbw'.out.size)
       have hown2 := owns_below hown'.out hgr
       have hAw2 := hAw'.out.keep hgr hAw'.out.inside
       clear hgr c4 c5 c6' c7 y0 y1 kc4 kc5 ky0 ky1
       generalize grow (redrawn w13 dq) osq = W9 at hbw2 hown2 hAw2 ⊢
       have d4 := hown2.cellAt (k * 10 + 6) (by omega)
       have d5 := hown2.cellAt (k * 10 + 7) (by omega)
       rw [flatQ_get hmg2.out 6 (by decide)] at d4
       rw [flatQ_get hmg2.out 7 (by decide)] at d5
       replace d4 : W9.cell? ⟨gq, k * 10 + 6, none⟩ = some (.int .i64 q0.de) := d4
       replace d5 : W9.cell? ⟨gq, k * 10 + 7, none⟩ = some (.int .i64 q0.dl) := d5
       have f4 := hown2.frozenAt (k * 10 + 6)
       have f5 := hown2.frozenAt (k * 10 + 7)
       have hs1 := (hown2.stored (k * 10 + 6) (.int .i64 (max 0 (q0.de - b1)))).1
       have hs2 := (hs1.stored (k * 10 + 7) (.int .i64 (q0.dl + b3))).1
       rw [drop_set hmg2.out] at hs2
       have hA9 := (hAw2.far (b := gq) (fun e => hgg6 e.symm) (k * 10 + 6) (.int .i64 (max 0 (q0.de - b1)))).far (b := gq) (fun e => hgg6 e.symm) (k * 10 + 7) (.int .i64 (q0.dl + b3))
       have hb9 := (hbw2.setCell (p := ⟨gq, k * 10 + 6, none⟩) (by exact hgb) (.int .i64 (max 0 (q0.de - b1)))).setCell (p := ⟨gq, k * 10 + 7, none⟩) (by exact hgb) (.int .i64 (q0.dl + b3))
       have hs2' := Lib.hid hs2
       have hA9' := Lib.hid hA9
       have hb9' := Lib.hid hb9
       clear hs1 hs2 hA9 hb9 hown2 hAw2 hbw2
       have hnx := mixF_next (f := moreQ b0 b1 b3) hqk.out
       rw [List.set_set] at hs2'
       replace hnx : (mixF (moreQ b0 b1 b3) t k).set k (dropQ (pickQ q0 (max 0 (q0.pe - b3)) (q0.pl + b0)) (max 0 (q0.de - b1)) (q0.dl + b3)) = mixF (moreQ b0 b1 b3) t (k + 1) := hnx
       rw [hnx] at hs2'
       clear hnx
       go_wp2_with fail
       exact ⟨⟨k + 1, by simp, hlt, hs2'.out, hA9'.out, hb9'.out⟩, by simp only [intOf]; omega⟩
     · obtain rfl : k = Nr := by omega
       have hfull : mixF (moreQ b0 b1 b3) t k = t.map (moreQ b0 b1 b3) := by rw [← hNr.out]; exact mixF_all
       rw [hfull] at hown
       have hq2 := Lib.hid (Rqs.of_owns hown (by rw [List.length_map, hNr.out]) (Nat.le_refl _))
       have hroW := Lib.hid (hro5.out.on hbw)
       have hqrW := Lib.hid (hqr5.out.on hbw)
       have htsW := Lib.hid (hts5.out.on hbw)
       have hVW := Lib.hid (hV5'.out.keep hbw hV5'.out.inside)
       have hAW := Lib.hid hAw
       have hBW := Lib.hid (hB5.out.trans (hbw.mono hB5.out.size))
       obtain ⟨R1, hR1⟩ : ∃ R, rightB v l t ts = R := ⟨_, rfl⟩
       have hc1 := Right_any v uo _ us l t ts (by have := hl12.out; omega) hnum.out wr hroW.out hqrW.out htsW.out
       rw [hR1] at hc1
       obtain ⟨R2, hR2⟩ : ∃ R, rightB (moreV b0 b1 b2 v) l (t.map (moreQ b0 b1 b3)) ts = R := ⟨_, rfl⟩
       have himp : R1 = true → R2 = true := fun e => by rw [← hR2]; exact hmore.out.1 ts (by rw [hR1]; exact e)
       have hR2' := Lib.hid hR2
       have p0 := hVW.out.cell 0
       have p1 := hVW.out.cell 1
       have p2 := hVW.out.cell 2
       have p3 := hVW.out.cell 3
       have p4 := hVW.out.cell 4
       simp at p0 p1 p2 p3 p4
       clear hfull hown hAw hbw hR1 hR2 hcell hqd hV5k hV5' hZ5' hro5 hqr5 hts5 hB5
       go_upto_region 14 with fail
       go_cut [123] from 111 to 123 (fun s wx => s = .bool false ∧ Below wr.heap.size wr wx)
       case first =>
         cases R1
         · go_wp2_with fail
           refine hc1.mono ?_
           clear hc1 p0 p1 p2 p3 p4
           rintro e w15 ⟨rfl, hb15⟩
           go_wp2
           all_goals go_meet
           exact ⟨rfl, hb15⟩
         · obtain rfl : R2 = true := himp rfl
           go_wp2_with fail
           refine hc1.mono ?_
           clear hc1 p0 p1 p2 p3 p4
           rintro e w15 ⟨rfl, hb15⟩
           have hc2 := Right_any (moreV b0 b1 b2 v) uo _ us l (t.map (moreQ b0 b1 b3)) ts (by have := hl12.out; omega) hnum.out w15 (hroW.out.on hb15) (hq2.out.on hb15) (htsW.out.on hb15)
           rw [hR2'.out] at hc2
           have hA15 := hAW.out.keep hb15 hAW.out.inside
           have p0 := hA15.cell 0
           have p1 := hA15.cell 1
           have p2 := hA15.cell 2
           have p3 := hA15.cell 3
           have p4 := hA15.cell 4
           simp at p0 p1 p2 p3 p4
           clear hA15
           go_wp2_with fail
           refine hc2.mono ?_
           clear hc2 p0 p1 p2 p3 p4
           rintro e w16 ⟨rfl, hb16⟩
           have hb := hb15.trans (hb16.mono hb15.size)
           clear hb15 hb16
           go_wp2
           all_goals go_meet
           exact ⟨rfl, hb⟩
       case rest =>
       clear hc1 p0 p1 p2 p3 p4
       obtain ⟨rfl, hbc⟩ := hcut
       obtain ⟨w17, rfl⟩ : ∃ w17, w17 = wc := ⟨_, rfl⟩
       have hroX := Lib.hid (hroW.out.on hbc)
       have hqrX := Lib.hid (hqrW.out.on hbc)
       have hq2X := Lib.hid (hq2.out.on hbc)
       have hVX := Lib.hid (hVW.out.keep hbc hVW.out.inside)
       have hAX := Lib.hid (hAW.out.keep hbc hAW.out.inside)
       have hBX := Lib.hid (hBW.out.trans (hbc.mono hBW.out.size))
       have hcC := Check_any v uo _ l t (by have := hl12.out; omega) hnum.out w17 hroX.out hqrX.out
       have p0 := hVX.out.cell 0
       have p1 := hVX.out.cell 1
       have p2 := hVX.out.cell 2
       have p3 := hVX.out.cell 3
       have p4 := hVX.out.cell 4
       simp at p0 p1 p2 p3 p4
       clear hbc hroW hqrW hq2 hVW hAW hBW htsW
       go_wp2_with fail
       refine hcC.mono ?_
       clear hcC p0 p1 p2 p3 p4
       rintro e w18 ⟨⟨u, rfl, hu⟩, hb18⟩
       rcases hu with ⟨e1, rfl⟩ | ⟨e1, q1, rfl, -⟩
       · have e2 := hmore.out.2 e1
         have hcD := Check_any (moreV b0 b1 b2 v) uo _ l (t.map (moreQ b0 b1 b3)) (by have := hl12.out; omega) hnum.out w18 (hroX.out.on hb18) (hq2X.out.on hb18)
         have hA18 := hAX.out.keep hb18 hAX.out.inside
         have hB18 := Lib.hid (hBX.out.trans (hb18.mono hBX.out.size))
         have p0 := hA18.cell 0
         have p1 := hA18.cell 1
         have p2 := hA18.cell 2
         have p3 := hA18.cell 3
         have p4 := hA18.cell 4
         simp at p0 p1 p2 p3 p4
         clear hA18 hb18 e1
         go_wp2_with fail
         refine hcD.mono ?_
         clear hcD p0 p1 p2 p3 p4
         rintro e w19 ⟨⟨u, rfl, hu⟩, hb19⟩
         have hB19 := hB18.out.trans (hb19.mono hB18.out.size)
         rcases hu with ⟨e3, rfl⟩ | ⟨e3, q1, rfl, -⟩
         · clear e3 e2 hb19
           go_wp2
           go_ret
           exact ⟨rfl, hB19⟩
         · exact absurd e2 e3
       · have hB18 := hBX.out.trans (hb18.mono hBX.out.size)
         clear e1 hb18
         go_wp2
         go_ret
         exact ⟨rfl, hB18⟩

end Go.Proofs.YteefkijmodcijaaDoor.feasMore

import Derived.Test.YteefkijmodcijaaDoorPkFeasMix2
import Derived.Test.YteefkijmodcijaaDoorPkFeasMoreMath
import Derived.Test.YteefkijmodcijaaDoorPkFeasCheck
import Derived.Test.YteefkijmodcijaaDoorPkFeasWorks2

/-
  FeasMoved returns true, whatever the draft, the times, by how much and memory are. Its condition: errors.errorType holds its handle.
-/
namespace Go.Proofs.YteefkijmodcijaaDoor.feasMoved
open Go.ChangeShapes Go.WideShapes Go.ChangeAt Go.RowKit Go.Sort Go.Proofs.YteefkijmodcijaaDoor.Mem Go.Proofs.YteefkijmodcijaaDoor.Route Go.Proofs.YteefkijmodcijaaDoor.When Go.Proofs.YteefkijmodcijaaDoor.Feas
set_option linter.unusedVariables false

set_option maxRecDepth 100000 in
set_option maxHeartbeats 8000000 in
theorem walk (xb : Option Addr) (Nb cb : Nat) (bs : List Int) (a b c : Int) (hby : ∀ x ∈ bs, 0 ≤ x ∧ x < 256) (ha : 0 ≤ a ∧ a < 256) (hb : 0 ≤ b ∧ b < 256) (yb : Option Addr) (My cy : Nat) (ys : List Int) (A Wh M : Int) (hys : ∀ x ∈ ys, 0 ≤ x ∧ x < 256) (hA : 0 ≤ A ∧ A < 256) (hWh : 0 ≤ Wh ∧ Wh < 256) (hM : -128 ≤ M ∧ M < 128) (b0 : Int) (h0 : 0 ≤ b0 ∧ b0 < 65536) (w : World) (hg : Hd w)
    (hD : RowB w.heap.size w (.slice xb Nb cb) 1 (bs.map byV)) (hP : RowB w.heap.size w (.slice yb My cy) 1 (ys.map byV)) :
    Calls Tryd.prog 9 #[.agg #[.slice xb Nb cb, .int .u8 a, .int .u8 b, .int .i64 c], .agg #[.slice yb My cy, .int .u8 A, .int .u8 Wh, .int .i8 M], .int .u16 b0] w fun e w' => e = .returned (.bool true) ∧ Below w.heap.size w w' := by
  obtain ⟨q, hq⟩ : ∃ q, w.heap.size = q := ⟨_, rfl⟩
  obtain ⟨w1, hw1⟩ : ∃ w1, (w.alloc (.cells #[.slice xb Nb cb, .int .u8 a, .int .u8 b, .int .i64 c] 24)).alloc (.cells #[.slice yb My cy, .int .u8 A, .int .u8 Wh, .int .i8 M] 27) = w1 := ⟨_, rfl⟩
  have hX1 : At w1 q 24 #[.slice xb Nb cb, .int .u8 a, .int .u8 b, .int .i64 c] := by rw [← hw1]; exact (At.new_ _ _ _ hq.symm).alloc _
  have hY1 : At w1 (q + 1) 27 #[.slice yb My cy, .int .u8 A, .int .u8 Wh, .int .i8 M] := by rw [← hw1]; exact At.new_ _ _ _ (by simp [hq])
  have hb1 : Below w.heap.size w w1 := by rw [← hw1]; exact ((Below.refl _ _).alloc (by omega) _).alloc (by simp) _
  have hs1 : q + 1 < w1.heap.size := hY1.inside
  have hg1 := hg.on hb1
  have hD1 := Lib.hid (RowB.on hD hb1)
  have hP1 := Lib.hid (RowB.on hP hb1)
  have hby' := Lib.hid hby
  have hys' := Lib.hid hys
  have hw1' := Lib.hid hw1
  have hq' := Lib.hid hq
  clear hD hP hby hys hw1 hg hq
  obtain ⟨iq, hiq, hq0, hq1, hq2⟩ := info_parts info_request
  obtain ⟨it, hit, ht0, ht1, ht2⟩ := info_parts info_time
  go_enter Tryd.func9, Tryd.ntmps9
  go_upto_region 1 with fail
  first | rw [hw1'.out] | (simp only [hq'.out]; rw [hw1'.out])
  go_wp2_with fail
  refine (works_any _ hg1).mono ?_
  rintro e w2 ⟨rfl, hb2⟩
  have hg2 := hg1.on hb2
  have hX2 := hX1.keep hb2 hX1.inside
  have hY2 := hY1.keep hb2 hY1.inside
  have hbA := hb1.trans (hb2.mono hb1.size)
  have hp := parts_any xb Nb cb bs a b c _ (RowB.on hD1.out hb2) hby'.out ha hb
  have hP2 := Lib.hid (RowB.on hP1.out hb2)
  have hq2 : q + 1 < w2.heap.size := hY2.inside
  have x0 := hX2.cell 0
  have x1 := hX2.cell 1
  have x2 := hX2.cell 2
  have x3 := hX2.cell 3
  simp at x0 x1 x2 x3
  try simp only [hq'.out]
  clear hX1 hY1 hb1 hb2 hD1 hP1 hby' ha hb hg1 hs1 hw1'
  go_wp2_with fail
  refine hp.mono ?_
  clear hp x0 x1 x2 x3 hX2
  rintro e w3 ⟨⟨v, uo, ur, l, t, rfl, hv, hro, hsm, hlo, hqr, hlr, hch⟩, hb3⟩
  have hDr : Hid (Dr v l t) := Lib.hid (Dr.of hv hsm hlo hch)
  have hnum : Hid (Nums l) := Lib.hid (Dr.nums (v := v) (t := t) hsm)
  have hvd := Lib.hid hv
  have hfine := Lib.hid hsm
  have hdr := Lib.hid hch
  obtain ⟨n, hn⟩ : ∃ n, w3.heap.size = n := ⟨_, rfl⟩
  obtain ⟨w4, hw4⟩ : ∃ w4, w3.alloc (.cells #[.int .i64 v.hx, .int .i64 v.hy, .int .i64 v.cp, .int .i64 v.st, .int .i64 v.en] 34) = w4 := ⟨_, rfl⟩
  have hb34 : Below w3.heap.size w3 w4 := by rw [← hw4]; exact (Below.refl _ _).alloc (Nat.le_refl _) _
  have hV4 : At w4 n 34 #[.int .i64 v.hx, .int .i64 v.hy, .int .i64 v.cp, .int .i64 v.st, .int .i64 v.en] := by rw [← hw4]; exact At.new_ _ _ _ hn.symm
  have hb24 := hb3.trans (hb34.mono hb3.size)
  have hbB := hbA.trans (hb24.mono hbA.size)
  have hY4 := hY2.keep hb24 hY2.inside
  have hg4 := hg2.on hb24
  have hro4 := Lib.hid (hro.on hb34)
  have hqr4 := Lib.hid (hqr.on hb34)
  have hP4 := hP2.out.on hb24
  have hnw : n < w4.heap.size := hV4.inside
  have hqn : q + 1 < n := by have := hb3.size; omega
  have hl12 : Hid (l.length ≤ 12) := Lib.hid hlo
  have ht6 : Hid (t.length ≤ 6) := Lib.hid hlr
  have hw4' := Lib.hid hw4
  have hn' := Lib.hid hn
  clear hb3 hb34 hb24 hbA hY2 hg2 hP2 hro hqr hsm hlo hlr hch hv hw4 hn hq2
  go_upto_region 4 with fail
  try simp only [hn'.out]
  rw [hw4'.out]
  have y0 := hY4.cell 0
  have y1 := hY4.cell 1
  have y2 := hY4.cell 2
  have y3 := hY4.cell 3
  have v0 := hV4.cell 0
  have v1 := hV4.cell 1
  have v2 := hV4.cell 2
  have v3 := hV4.cell 3
  have v4 := hV4.cell 4
  simp at y0 y1 y2 y3 v0 v1 v2 v3 v4
  have hpu := pushed_any hDr.out hl12.out yb My cy ys A Wh M uo ur w4 hP4 hys'.out hA hWh hM hro4.out hqr4.out
  go_wp2_with fail
  refine hpu.mono ?_
  clear hpu y0 y1 y2 y3 v0 v1 v2 v3 v4 hY4 hP4 hys' hA hWh hM
  rintro e w5 ⟨⟨us, ts, rfl, hts, _, htl, htb⟩, hb5⟩
  obtain ⟨xr, Nr, cr, rfl, hNr0, hrc1, hrc2, _⟩ := hqr4.out.opened
  obtain ⟨xs, Ns, cs, rfl, hNs0, hsc1, hsc2, _⟩ := hts.opened
  have hNr := Lib.hid hNr0
  have hNs := Lib.hid hNs0
  have hNr6 : Nr ≤ 6 := by rw [← hNr0]; exact ht6.out
  have hNs12 : Ns ≤ 12 := by rw [← hNs0, htl]; exact hl12.out
  unfold maxLen at hrc2 hsc2
  have hV5 := hV4.keep hb5 hV4.inside
  have hg5 := Lib.hid (hg4.on hb5)
  have hro5 := Lib.hid (hro4.out.on hb5)
  have hqr5 := Lib.hid (hqr4.out.on hb5)
  have hB5 := Lib.hid (hbB.trans (hb5.mono hbB.size))
  have hts5 := Lib.hid hts
  have htl' := Lib.hid htl
  have htb' := Lib.hid htb
  have hplq := Lib.hid (rqs_plain hqr5.out)
  have hplt := Lib.hid (tms_plain hts5.out)
  have hn5 : n < w5.heap.size := hV5.inside
  have hmv := Lib.hid (moved_all (ts := ts) hDr.out hvd.out hdr.out h0 htl)
  obtain ⟨h01, h02⟩ := h0
  clear hb5 hts htl htb hro4 hqr4 hV4 hbB hNr0 hNs0 hnw ht6 hg4
  go_upto_region 6 with fail
  refine Sched.wp_region_sched 9 (Kp w5.heap.size 34) (VT (B := w5.heap.size) (T := 34) [.val (.agg #[.int .i64 v.hx, .int .i64 v.hy, .int .i64 v.cp, .int .i64 v.st, .int .i64 v.en]), .of (EmptyAt w5.heap.size 62 10) (fun h hb => EmptyAt.kept h hb (by decide)), .val (.slice xr Nr cr), .of (RowAt w5.heap.size 62 10 Nr (flatQ t)) (fun h hb => hb.owns h (by decide)), .of (EmptyAt w5.heap.size 40 3) (fun h hb => EmptyAt.kept h hb (by decide)), .val (.slice xs Ns cs), .of (RowAt w5.heap.size 40 3 Ns (flatT ts)) (fun h hb => hb.owns h (by decide)), .any, .any]) (ZV 7 8 w5.heap.size 34 #[.int .i64 0, .int .i64 0, .int .i64 0, .int .i64 0, .int .i64 0] #[.int .i64 v.hx, .int .i64 v.hy, .int .i64 v.cp, .int .i64 v.st, .int .i64 v.en]) (by kernel_rfl) (by kernel_rfl) (by kernel_rfl) (fun h1 h2 => h1.trans h2) (fun h1 h2 => VT.keep h1 h2) (Kp.new (Below.refl _ _).drew (Nat.le_refl _)) (fun _ => ZV.start) (Sched.StepsA.steps (by kernel_rfl) ?hSB) ?hQB
  case hSB =>
   simp only [List.take_succ_cons, List.take_zero]
   refine ⟨?_, ?_, ?_, ?_, ?_, ?_, ?_, ?_, ?_, trivial⟩
   · intro ys done W aa hE hn hF hD hZ hG hO
     replace hE : Kp w5.heap.size 34 w5 W := hE
     have hsz := hE.1.size
     have o7 := hO 7 (by kernel_rfl)
     replace o7 : aa.tmps[7]? = some (.pointer (some ⟨n, 0, none⟩)) := o7
     have hAt := hV5.keep hE.1 hV5.inside
     have p0 := hAt.cell 0
     have p1 := hAt.cell 1
     have p2 := hAt.cell 2
     have p3 := hAt.cell 3
     have p4 := hAt.cell 4
     simp at p0 p1 p2 p3 p4
     clear hAt
     go_wp2_with fail
     exact ⟨_, rfl, Kp.new (Below.refl _ _) hsz, VT.val rfl rfl, hZ.light (by decide) (by decide) (Below.refl _ _)⟩
   · intro ys done W aa hE hn hF hD hZ hG hO
     replace hE : Kp w5.heap.size 34 w5 W := hE
     have hsz := hE.1.size
     go_wp2_with fail
     exact ⟨_, rfl, Kp.new ((Below.refl _ _).alloc (Nat.le_refl _) _) hsz, VT.of rfl ⟨_, rfl, ownsEmptyQ rfl hsz⟩, hZ.light (by decide) (by decide) ((Below.refl _ _).alloc (Nat.le_refl _) _)⟩
   · intro ys done W aa hE hn hF hD hZ hG hO
     replace hE : Kp w5.heap.size 34 w5 W := hE
     have hsz := hE.1.size
     have o9 := hO 9 (by kernel_rfl)
     replace o9 : aa.tmps[9]? = some (.slice xr Nr cr) := o9
     go_wp2_with fail
     exact ⟨_, rfl, Kp.new (Below.refl _ _) hsz, VT.val rfl rfl, hZ.light (by decide) (by decide) (Below.refl _ _)⟩
   · intro ys done W aa hE hn hF hD hZ hG hO
     replace hE : Kp w5.heap.size 34 w5 W := hE
     have hsz := hE.1.size
     have v1 := (hF 1 (by decide) (hD 1 (by kernel_rfl))).get rfl
     have g1 := hG 1 35 rfl (Nat.le_of_ble_eq_true rfl)
     have v2 := (hF 2 (by decide) (hD 2 (by kernel_rfl))).eq rfl
     have g2 := hG 2 36 rfl (Nat.le_of_ble_eq_true rfl)
     rw [v2] at g2
     obtain ⟨ge, hge, hoe⟩ := v1
     rw [hge] at g1 hoe
     have hqW := hqr5.out.keep hE.1 (Nat.le_refl _)
     refine wpList_append_fresh rfl (.tmp 35) (.tmp 36) 29 rfl w5.heap.size 62 iq (.agg #[.int .i64 0, .int .i64 0, .int .i64 0, .int .i64 0, .int .i64 0, .int .i64 0, .int .i64 0, .int .i64 0, .int .i64 0, .int .i64 0]) 10 80 Tryd.underlying29 hiq hq0 hq1 hq2 rfl (by decide) ge (show aa.tmps.getD 35 undef = _ by simp [g1]) hoe _ Nr ⟨_, _, rfl⟩ hplq.out (flatQ t) (show aa.tmps.getD 36 undef = _ by simp [g2]) (by rw [flatQ_length, hNr.out]) (fun ad c e => by simp only [Value.slice.injEq] at e; obtain ⟨rfl, -, rfl⟩ := e; exact rqs_flat hqW) flatQ_one (by unfold maxLen; omega) (by omega) hsz ?_
     intro v' W' hv' hb'
     replace hb' := Lib.hid hb'
     have hv2 : RowAt w5.heap.size 62 10 Nr (flatQ t) v' W' := hv'
     go_wp2_with fail
     exact ⟨_, rfl, Kp.new hb'.out hsz, VT.of rfl hv2, hZ.light (by decide) (by decide) hb'.out⟩
   · intro ys done W aa hE hn hF hD hZ hG hO
     replace hE : Kp w5.heap.size 34 w5 W := hE
     have hsz := hE.1.size
     go_wp2_with fail
     exact ⟨_, rfl, Kp.new ((Below.refl _ _).alloc (Nat.le_refl _) _) hsz, VT.of rfl ⟨_, rfl, ownsEmptyQ rfl hsz⟩, hZ.light (by decide) (by decide) ((Below.refl _ _).alloc (Nat.le_refl _) _)⟩
   · intro ys done W aa hE hn hF hD hZ hG hO
     replace hE : Kp w5.heap.size 34 w5 W := hE
     have hsz := hE.1.size
     have o10 := hO 10 (by kernel_rfl)
     replace o10 : aa.tmps[10]? = some (.slice xs Ns cs) := o10
     go_wp2_with fail
     exact ⟨_, rfl, Kp.new (Below.refl _ _) hsz, VT.val rfl rfl, hZ.light (by decide) (by decide) (Below.refl _ _)⟩
   · intro ys done W aa hE hn hF hD hZ hG hO
     replace hE : Kp w5.heap.size 34 w5 W := hE
     have hsz := hE.1.size
     have v4 := (hF 4 (by decide) (hD 4 (by kernel_rfl))).get rfl
     have g4 := hG 4 38 rfl (Nat.le_of_ble_eq_true rfl)
     have v5 := (hF 5 (by decide) (hD 5 (by kernel_rfl))).eq rfl
     have g5 := hG 5 39 rfl (Nat.le_of_ble_eq_true rfl)
     rw [v5] at g5
     obtain ⟨ge, hge, hoe⟩ := v4
     rw [hge] at g4 hoe
     have hqW := hts5.out.keep hE.1 (Nat.le_refl _)
     refine wpList_append_fresh rfl (.tmp 38) (.tmp 39) 30 rfl w5.heap.size 40 it (.agg #[.int .i64 0, .int .i64 0, .int .i64 0]) 3 24 Tryd.underlying30 hit ht0 ht1 ht2 rfl (by decide) ge (show aa.tmps.getD 38 undef = _ by simp [g4]) hoe _ Ns ⟨_, _, rfl⟩ hplt.out (flatT ts) (show aa.tmps.getD 39 undef = _ by simp [g5]) (by rw [flatT_length, hNs.out]) (fun ad c e => by simp only [Value.slice.injEq] at e; obtain ⟨rfl, -, rfl⟩ := e; exact tms_flat hqW) flatT_one (by unfold maxLen; omega) (by omega) hsz ?_
     intro v' W' hv' hb'
     replace hb' := Lib.hid hb'
     have hv2 : RowAt w5.heap.size 40 3 Ns (flatT ts) v' W' := hv'
     go_wp2_with fail
     exact ⟨_, rfl, Kp.new hb'.out hsz, VT.of rfl hv2, hZ.light (by decide) (by decide) hb'.out⟩
   · intro ys done W aa hE hn hF hD hZ hG hO
     replace hE : Kp w5.heap.size 34 w5 W := hE
     have hsz := hE.1.size
     go_wp2_with fail
     exact ⟨_, rfl, Kp.new ((Below.refl _ _).alloc (Nat.le_refl _) _) hsz, VT.any rfl, hZ.lay hn (by decide) (At.new _ _ _) hsz⟩
   · intro ys done W aa hE hn hF hD hZ hG hO
     replace hE : Kp w5.heap.size 34 w5 W := hE
     have hsz := hE.1.size
     have v0 := (hF 0 (by decide) (hD 0 (by kernel_rfl))).eq rfl
     have g0 := hG 0 34 rfl (Nat.le_of_ble_eq_true rfl)
     rw [v0] at g0
     obtain ⟨g, e7, hg7, hA⟩ := hZ.at0 (hD 7 (by kernel_rfl)) hn
     have g7 := hG 7 12 rfl (Nat.le_of_ble_eq_true rfl)
     rw [e7] at g7
     have z0 := hA.cell 0
     have z1 := hA.cell 1
     have z2 := hA.cell 2
     have z3 := hA.cell 3
     have z4 := hA.cell 4
     have zf := hA.free
     simp at z0 z1 z2 z3 z4
     have k1 := Kp.put hA hg7 0 (.int .i64 v.hx)
     have A1 := hA.put 0 (.int .i64 v.hx)
     have k2 := Kp.put A1 hg7 1 (.int .i64 v.hy)
     have A2 := A1.put 1 (.int .i64 v.hy)
     have k3 := Kp.put A2 hg7 2 (.int .i64 v.cp)
     have A3 := A2.put 2 (.int .i64 v.cp)
     have k4 := Kp.put A3 hg7 3 (.int .i64 v.st)
     have A4 := A3.put 3 (.int .i64 v.st)
     have k5 := Kp.put A4 hg7 4 (.int .i64 v.en)
     have A5 := A4.put 4 (.int .i64 v.en)
     have kk := Lib.hid ((((k1.trans k2).trans k3).trans k4).trans k5)
     have hp := Lib.hid (hZ.put (v := undef) (hD 7 (by kernel_rfl)) (by decide) e7 (by simpa using A5) hg7)
     clear k1 k2 k3 k4 k5 A1 A2 A3 A4 A5 hA
     go_wp2_with fail
     exact ⟨kk.out, undef, VT.any rfl, hp.out⟩
  case hQB =>
   intro ys w6 hE hF hZ
   obtain ⟨done, hd, hZ⟩ := hZ
   replace hE : Kp w5.heap.size 34 w5 w6 := hE
   have v3 := (hF 3 (by decide)).get rfl
   have v6 := (hF 6 (by decide)).get rfl
   obtain ⟨gw, e7, hg6, hA6⟩ := hZ.at1 (hd 7 (by decide)) (hd 8 (by decide))
   obtain ⟨x6, c6, e3, hc61, hc62⟩ := owns_slice v3
   obtain ⟨x7, c7, e6, hc71, hc72⟩ := owns_slice v6
   unfold maxLen at hc61 hc71
   replace v3 : w6.ownsRow w5.heap.size 62 10 (ys 3) Nr (flatQ t) := v3
   replace v6 : w6.ownsRow w5.heap.size 40 3 (ys 6) Ns (flatT ts) := v6
   rw [e3] at v3
   rw [e6] at v6
   have hhb := Lib.hid hE.1
   have hho := Lib.hid v3
   have hht := Lib.hid v6
   have hA7 := Lib.hid hA6
   have hV5' := Lib.hid hV5
   simp only [List.take_succ_cons, List.take_zero, List.drop_succ_cons, List.drop_zero, Sched.fill, e3, e6, e7]
   clear hF v3 v6 e3 e6 e7 hA6 hV5 hE hZ hd
   go_simp
   go_upto_region 7 with fail
   have hvb := hDr.out.hv
   unfold Vh.chk at hvb
   rw [Order.veh_iff] at hvb
   obtain ⟨-, ⟨hc1, hc2⟩, ⟨hs1, hs2⟩, he1, he2⟩ := hvb
   have he3 : v.en ≤ 2000 := hvd.out.2.1
   have hng : n ≠ gw := by omega
   have hVx := hV5'.out.keep hhb.out hV5'.out.inside
   have p2 := hVx.cell 2
   have p3 := hVx.cell 3
   have p4 := hVx.cell 4
   have a3 := hA7.out.cell 3
   have a4 := hA7.out.cell 4
   have af := hA7.out.free
   simp at p2 p3 p4 a3 a4
   have hgx := rowApartAt hho.out hA7.out (by decide)
   have hgt := rowApartAt hht.out hA7.out (by decide)
   have hA8 : At (((w6.setCell ⟨gw, 3, none⟩ (.int .i64 (v.st + b0))).setCell ⟨gw, 4, none⟩ (.int .i64 (v.en + b0))).drew) gw 34 #[.int .i64 v.hx, .int .i64 v.hy, .int .i64 v.cp, .int .i64 (v.st + b0), .int .i64 (v.en + b0)] := by
     have := ((hA7.out.put 3 (.int .i64 (v.st + b0))).put 4 (.int .i64 (v.en + b0))).drew
     simpa using this
   have hb8 : Below w5.heap.size w5 (((w6.setCell ⟨gw, 3, none⟩ (.int .i64 (v.st + b0))).setCell ⟨gw, 4, none⟩ (.int .i64 (v.en + b0))).drew) := ((hhb.out.setCell (by exact hg6) _).setCell (by exact hg6) _).drew
   have ho8 : (((w6.setCell ⟨gw, 3, none⟩ (.int .i64 (v.st + b0))).setCell ⟨gw, 4, none⟩ (.int .i64 (v.en + b0))).drew).ownsRow w5.heap.size 62 10 (.slice x6 Nr c6) Nr (flatQ t) := ownsFar (ownsFar hho.out hgx 3 (.int .i64 (v.st + b0))) hgx 4 (.int .i64 (v.en + b0))
   have ht8 : (((w6.setCell ⟨gw, 3, none⟩ (.int .i64 (v.st + b0))).setCell ⟨gw, 4, none⟩ (.int .i64 (v.en + b0))).drew).ownsRow w5.heap.size 40 3 (.slice x7 Ns c7) Ns (flatT ts) := ownsFar (ownsFar hht.out hgt 3 (.int .i64 (v.st + b0))) hgt 4 (.int .i64 (v.en + b0))
   have hA8' := Lib.hid hA8
   have hb8' := Lib.hid hb8
   have ho8' := Lib.hid ho8
   have ht8' := Lib.hid ht8
   clear hA8 hb8 ho8 ht8 hVx hgx hgt
   go_region
   clear p2 p3 p4 a3 a4 af hA7 hho hht hhb
   generalize ((w6.setCell ⟨gw, 3, none⟩ (.int .i64 (v.st + b0))).setCell ⟨gw, 4, none⟩ (.int .i64 (v.en + b0))).drew = w8 at hA8' hb8' ho8' ht8' ⊢
   have hcell := Lib.hid (fun W (hW : Below w5.heap.size w5 W) (k : Nat) (q0 : Rq) (hq : t[k]? = some q0) => Rqs.at (hqr5.out.keep hW (Nat.le_refl _)) hq)
   have hqd : Hid (∀ q ∈ t, (0 ≤ q.pe ∧ q.pe ≤ 8000) ∧ (0 ≤ q.pl ∧ q.pl ≤ 8000) ∧ (0 ≤ q.de ∧ q.de ≤ 8000) ∧ (0 ≤ q.dl ∧ q.dl ≤ 8000)) := Lib.hid (fun q hq => by
     obtain ⟨k1, k2, k3⟩ := hdr.out q hq
     unfold Rq.chk at k1
     rw [Order.chk_iff, Window.okB_iff, Window.okB_iff] at k1
     omega)
   clear hdr hvd hfine
   go_wp2
   go_loopw [15] (fun i wr => ∃ k : Nat, i = .int .i64 k ∧ k ≤ Nr ∧ wr.ownsRow w5.heap.size 62 10 (.slice x6 Nr c6) Nr (flatQ (mixF (shQ b0) t k)) ∧ wr.ownsRow w5.heap.size 40 3 (.slice x7 Ns c7) Ns (flatT ts) ∧ At wr gw 34 #[.int .i64 v.hx, .int .i64 v.hy, .int .i64 v.cp, .int .i64 (v.st + b0), .int .i64 (v.en + b0)] ∧ Below w5.heap.size w5 wr) (fun i _ => Nr - (intOf i).toNat)
   case atStart => exact ⟨0, rfl, Nat.zero_le _, by rw [mixF_zero]; exact ho8'.out, ht8'.out, hA8'.out, hb8'.out⟩
   case round =>
     obtain ⟨k, rfl, hk, hown, htw, hAw, hbw⟩ := hrel
     clear hA8' hb8' ho8' ht8'
     by_cases hlt : k < Nr
     · have hlti : (k : Int) < Nr := by omega
       obtain ⟨q0, hq0k⟩ : ∃ q0, t[k]? = some q0 := ⟨t[k]'(by rw [hNr.out]; exact hlt), List.getElem?_eq_getElem _⟩
       obtain ⟨⟨j1, j2⟩, ⟨j3, j4⟩, ⟨j5, j6⟩, ⟨j7, j8⟩⟩ := hqd.out q0 (List.mem_of_getElem? hq0k)
       obtain ⟨gq, rfl, _⟩ : ∃ gq : Nat, x6 = some ⟨gq, 0, none⟩ ∧ Nr ≤ c6 := by
         rcases owns_parts hown with ⟨_, e0, _⟩ | e0
         · omega
         · exact e0
       obtain ⟨gt, ot, rfl, hgt, -⟩ := hcell.out wr hbw k q0 hq0k
       have hrq : Hid (∀ W, Below w5.heap.size w5 W → W.cell? ⟨gt, ot + k * 10 + 4, none⟩ = some (.int .i64 q0.pe) ∧ W.cell? ⟨gt, ot + k * 10 + 5, none⟩ = some (.int .i64 q0.pl) ∧ W.cell? ⟨gt, ot + k * 10 + 6, none⟩ = some (.int .i64 q0.de) ∧ W.cell? ⟨gt, ot + k * 10 + 7, none⟩ = some (.int .i64 q0.dl)) := Lib.hid (fun W hW => by
         obtain ⟨g', o', eg, _, _, _, _, _, c4, c5, c6, c7, _⟩ := hcell.out W hW k q0 hq0k
         cases eg
         exact ⟨c4, c5, c6, c7⟩)
       have hmg := mixF_get (f := shQ b0) hq0k
       have hgb := owns_row hown gq rfl
       have hgq := own_lt hown gq rfl
       have hgg6 := rowApartAt hown hAw (by decide) gq rfl
       obtain ⟨ocs, hoc⟩ := ownsAt hown
       have hgtm := rowApartAt htw hoc (by decide)
       have hmg' := Lib.hid hmg
       have hown' := Lib.hid hown
       have htw' := Lib.hid htw
       have hAw' := Lib.hid hAw
       have hbw' := Lib.hid hbw
       have hqk := Lib.hid hq0k
       clear hown htw hAw hbw hmg hq0k hoc
       go_upto_region 11 with fail
       obtain ⟨c4, c5, c6', c7'⟩ := hrq.out wr hbw'.out
       have kc4 := cell_regrown c4
       have kc5 := cell_regrown c5
       refine Tail.wp_region_below_tail 21 (by kernel_rfl) (by kernel_rfl) (by kernel_rfl) ?_
       simp only [List.take_succ_cons, List.take_zero, List.drop_succ_cons, List.drop_zero]
       repeat (go_big_quiet_step (fail))
       refine wpQuiet_nil ?_
       intro _ hw'
       obtain ⟨⟨dq, osq⟩, hw''⟩ := hw'
       subst hw''
       have hgr := below_regrown wr dq osq
       have hbw2 := hbw'.out.trans (hgr.mono hbw'.out.size)
       have hown2 := owns_below hown'.out hgr
       have htw2 := owns_below htw'.out hgr
       have hAw2 := hAw'.out.keep hgr hAw'.out.inside
       clear hgr c4 c5 c6' c7' kc4 kc5
       generalize grow (redrawn wr dq) osq = W9 at hbw2 hown2 htw2 hAw2 ⊢
       have d4 := hown2.cellAt (k * 10 + 4) (by omega)
       have d5 := hown2.cellAt (k * 10 + 5) (by omega)
       rw [flatQ_get hmg'.out 4 (by decide)] at d4
       rw [flatQ_get hmg'.out 5 (by decide)] at d5
       replace d4 : W9.cell? ⟨gq, k * 10 + 4, none⟩ = some (.int .i64 q0.pe) := d4
       replace d5 : W9.cell? ⟨gq, k * 10 + 5, none⟩ = some (.int .i64 q0.pl) := d5
       have f4 := hown2.frozenAt (k * 10 + 4)
       have f5 := hown2.frozenAt (k * 10 + 5)
       have hs1 := (hown2.stored (k * 10 + 4) (.int .i64 (q0.pe + b0))).1
       have hs2 := (hs1.stored (k * 10 + 5) (.int .i64 (q0.pl + b0))).1
       rw [pick_set hmg'.out] at hs2
       have hA9 := (hAw2.far (b := gq) (fun e => hgg6 e.symm) (k * 10 + 4) (.int .i64 (q0.pe + b0))).far (b := gq) (fun e => hgg6 e.symm) (k * 10 + 5) (.int .i64 (q0.pl + b0))
       have ht9 := ownsFar (ownsFar htw2 hgtm (k * 10 + 4) (.int .i64 (q0.pe + b0))) hgtm (k * 10 + 5) (.int .i64 (q0.pl + b0))
       have hb9 := (hbw2.setCell (p := ⟨gq, k * 10 + 4, none⟩) (by exact hgb) (.int .i64 (q0.pe + b0))).setCell (p := ⟨gq, k * 10 + 5, none⟩) (by exact hgb) (.int .i64 (q0.pl + b0))
       have hs2' := Lib.hid hs2
       have hA9' := Lib.hid hA9
       have ht9' := Lib.hid ht9
       have hb9' := Lib.hid hb9
       clear hs1 hs2 hA9 hb9 ht9 hown2 htw2 hAw2 hbw2
       go_upto_region 12 with fail
       generalize (W9.setCell ⟨gq, k * 10 + 4, none⟩ (.int .i64 (q0.pe + b0))).setCell ⟨gq, k * 10 + 5, none⟩ (.int .i64 (q0.pl + b0)) = w13 at hs2' hA9' ht9' hb9' ⊢
       clear hown' htw' hAw' hbw' d4 d5 f4 f5
       have hmg2 := Lib.hid (set_get (q' := pickQ q0 (q0.pe + b0) (q0.pl + b0)) hmg'.out)
       have hown' := hs2'
       have htw' := ht9'
       have hAw' := hA9'
       have hbw' := hb9'
       clear hs2' hA9' ht9' hb9'
       go_upto_region 12 with fail
       obtain ⟨c4, c5, c6', c7'⟩ := hrq.out w13 hbw'.out
       have kc4 := cell_regrown c6'
       have kc5 := cell_regrown c7'
       refine Tail.wp_region_below_tail 21 (by kernel_rfl) (by kernel_rfl) (by kernel_rfl) ?_
       simp only [List.take_succ_cons, List.take_zero, List.drop_succ_cons, List.drop_zero]
       repeat (go_big_quiet_step (fail))
       refine wpQuiet_nil ?_
       intro _ hw'
       obtain ⟨⟨dq, osq⟩, hw''⟩ := hw'
       subst hw''
       have hgr := below_regrown w13 dq osq
       have hbw2 := hbw'.out.trans (hgr.mono hbw'.out.size)
       have hown2 := owns_below hown'.out hgr
       have htw2 := owns_below htw'.out hgr
       have hAw2 := hAw'.out.keep hgr hAw'.out.inside
       clear hgr c4 c5 c6' c7' kc4 kc5
       generalize grow (redrawn w13 dq) osq = W9 at hbw2 hown2 htw2 hAw2 ⊢
       have d4 := hown2.cellAt (k * 10 + 6) (by omega)
       have d5 := hown2.cellAt (k * 10 + 7) (by omega)
       rw [flatQ_get hmg2.out 6 (by decide)] at d4
       rw [flatQ_get hmg2.out 7 (by decide)] at d5
       replace d4 : W9.cell? ⟨gq, k * 10 + 6, none⟩ = some (.int .i64 q0.de) := d4
       replace d5 : W9.cell? ⟨gq, k * 10 + 7, none⟩ = some (.int .i64 q0.dl) := d5
       have f4 := hown2.frozenAt (k * 10 + 6)
       have f5 := hown2.frozenAt (k * 10 + 7)
       have hs1 := (hown2.stored (k * 10 + 6) (.int .i64 (q0.de + b0))).1
       have hs2 := (hs1.stored (k * 10 + 7) (.int .i64 (q0.dl + b0))).1
       rw [drop_set hmg2.out] at hs2
       have hA9 := (hAw2.far (b := gq) (fun e => hgg6 e.symm) (k * 10 + 6) (.int .i64 (q0.de + b0))).far (b := gq) (fun e => hgg6 e.symm) (k * 10 + 7) (.int .i64 (q0.dl + b0))
       have ht9 := ownsFar (ownsFar htw2 hgtm (k * 10 + 6) (.int .i64 (q0.de + b0))) hgtm (k * 10 + 7) (.int .i64 (q0.dl + b0))
       have hb9 := (hbw2.setCell (p := ⟨gq, k * 10 + 6, none⟩) (by exact hgb) (.int .i64 (q0.de + b0))).setCell (p := ⟨gq, k * 10 + 7, none⟩) (by exact hgb) (.int .i64 (q0.dl + b0))
       have hs2' := Lib.hid hs2
       have hA9' := Lib.hid hA9
       have ht9' := Lib.hid ht9
       have hb9' := Lib.hid hb9
       clear hs1 hs2 hA9 hb9 ht9 hown2 htw2 hAw2 hbw2
       have hnx := mixF_next (f := shQ b0) hqk.out
       rw [List.set_set] at hs2'
       replace hnx : (mixF (shQ b0) t k).set k (dropQ (pickQ q0 (q0.pe + b0) (q0.pl + b0)) (q0.de + b0) (q0.dl + b0)) = mixF (shQ b0) t (k + 1) := hnx
       rw [hnx] at hs2'
       clear hnx
       go_wp2_with fail
       exact ⟨⟨k + 1, by simp, hlt, hs2'.out, ht9'.out, hA9'.out, hb9'.out⟩, by simp only [intOf]; omega⟩
     · obtain rfl : k = Nr := by omega
       have hfull : mixF (shQ b0) t k = t.map (shQ b0) := by rw [← hNr.out]; exact mixF_all
       rw [hfull] at hown
       have hown1 := Lib.hid hown
       have htw1 := Lib.hid htw
       have hAw1 := Lib.hid hAw
       have hbw1 := Lib.hid hbw
       have htc := Lib.hid (fun W (hW : Below w5.heap.size w5 W) (j : Nat) (y : Tm) (hy : ts[j]? = some y) => Tms.at (hts5.out.keep hW (Nat.le_refl _)) hy)
       clear hfull hown htw hAw hbw hcell hqd
       go_wp2
       go_loopw [16] (fun i wr => ∃ j : Nat, i = .int .i64 j ∧ j ≤ Ns ∧ wr.ownsRow w5.heap.size 62 10 (.slice x6 k c6) k (flatQ (t.map (shQ b0))) ∧ wr.ownsRow w5.heap.size 40 3 (.slice x7 Ns c7) Ns (flatT (mixF (shT b0) ts j)) ∧ At wr gw 34 #[.int .i64 v.hx, .int .i64 v.hy, .int .i64 v.cp, .int .i64 (v.st + b0), .int .i64 (v.en + b0)] ∧ Below w5.heap.size w5 wr) (fun i _ => Ns - (intOf i).toNat)
       case atStart => exact ⟨0, rfl, Nat.zero_le _, hown1.out, by rw [mixF_zero]; exact htw1.out, hAw1.out, hbw1.out⟩
       case round =>
         obtain ⟨j, rfl, hj, hown, htw, hAw, hbw⟩ := hrel
         clear hown1 htw1 hAw1 hbw1
         by_cases hlt : j < Ns
         · have hlti : (j : Int) < Ns := by omega
           obtain ⟨y, hy⟩ : ∃ y, ts[j]? = some y := ⟨ts[j]'(by rw [hNs.out]; exact hlt), List.getElem?_eq_getElem _⟩
           obtain ⟨⟨i1, i2⟩, ⟨i3, i4⟩, i5, i6⟩ := htb'.out y (List.mem_of_getElem? hy)
           obtain ⟨gq, rfl, _⟩ : ∃ gq : Nat, x7 = some ⟨gq, 0, none⟩ ∧ Ns ≤ c7 := by
             rcases owns_parts htw with ⟨_, e0, _⟩ | e0
             · omega
             · exact e0
           obtain ⟨gt, ot, rfl, hgt, c0, c1, c2⟩ := htc.out wr hbw j y hy
           have hmg := mixF_get (f := shT b0) hy
           have hgb := owns_row htw gq rfl
           have hgq := own_lt htw gq rfl
           have hgg6 := rowApartAt htw hAw (by decide) gq rfl
           obtain ⟨ocs, hoc⟩ := ownsAt htw
           have hgtm := rowApartAt hown hoc (by decide)
           have kc0 := cell_regrown c0
           have kc1 := cell_regrown c1
           have kc2 := cell_regrown c2
           have hmg' := Lib.hid hmg
           have hown' := Lib.hid hown
           have htw' := Lib.hid htw
           have hAw' := Lib.hid hAw
           have hbw' := Lib.hid hbw
           have hyk := Lib.hid hy
           clear hown htw hAw hbw hmg hy hoc
           go_upto_region 16 with fail
           refine Tail.wp_region_below_tail 25 (by kernel_rfl) (by kernel_rfl) (by kernel_rfl) ?_
           simp only [List.take_succ_cons, List.take_zero, List.drop_succ_cons, List.drop_zero]
           repeat (go_big_quiet_step (fail))
           refine wpQuiet_nil ?_
           intro _ hw'
           obtain ⟨⟨dq, osq⟩, hw''⟩ := hw'
           subst hw''
           have hgr := below_regrown wr dq osq
           have hbw2 := hbw'.out.trans (hgr.mono hbw'.out.size)
           have hown2 := owns_below hown'.out hgr
           have htw2 := owns_below htw'.out hgr
           have hAw2 := hAw'.out.keep hgr hAw'.out.inside
           clear hgr c0 c1 c2 kc0 kc1 kc2
           generalize grow (redrawn wr dq) osq = W9 at hbw2 hown2 htw2 hAw2 ⊢
           have d0 := htw2.cellAt (j * 3) (by omega)
           have d1 := htw2.cellAt (j * 3 + 1) (by omega)
           have d2 := htw2.cellAt (j * 3 + 2) (by omega)
           rw [show (flatT (mixF (shT b0) ts j))[j * 3]? = some (.int .i64 y.ar) from flatT_get hmg'.out 0 (by decide)] at d0
           rw [show (flatT (mixF (shT b0) ts j))[j * 3 + 1]? = some (.int .i64 y.be) from flatT_get hmg'.out 1 (by decide)] at d1
           rw [show (flatT (mixF (shT b0) ts j))[j * 3 + 2]? = some (.int .i64 y.lv) from flatT_get hmg'.out 2 (by decide)] at d2
           have f0 := htw2.frozenAt (j * 3)
           have f1 := htw2.frozenAt (j * 3 + 1)
           have f2 := htw2.frozenAt (j * 3 + 2)
           have hs1 := (htw2.stored (j * 3) (.int .i64 (y.ar + b0))).1
           have hs2 := (hs1.stored (j * 3 + 1) (.int .i64 (y.be + b0))).1
           have hs3 := (hs2.stored (j * 3 + 2) (.int .i64 (y.lv + b0))).1
           rw [time_set3 hmg'.out] at hs3
           have hnx := mixF_next (f := shT b0) hyk.out
           replace hnx : (mixF (shT b0) ts j).set j ⟨y.ar + b0, y.be + b0, y.lv + b0⟩ = mixF (shT b0) ts (j + 1) := hnx
           rw [hnx] at hs3
           have hA9 := ((hAw2.far (b := gq) (fun e => hgg6 e.symm) (j * 3) (.int .i64 (y.ar + b0))).far (b := gq) (fun e => hgg6 e.symm) (j * 3 + 1) (.int .i64 (y.be + b0))).far (b := gq) (fun e => hgg6 e.symm) (j * 3 + 2) (.int .i64 (y.lv + b0))
           have ho9 := ownsFar (ownsFar (ownsFar hown2 hgtm (j * 3) (.int .i64 (y.ar + b0))) hgtm (j * 3 + 1) (.int .i64 (y.be + b0))) hgtm (j * 3 + 2) (.int .i64 (y.lv + b0))
           have hb9 := ((hbw2.setCell (p := ⟨gq, j * 3, none⟩) (by exact hgb) (.int .i64 (y.ar + b0))).setCell (p := ⟨gq, j * 3 + 1, none⟩) (by exact hgb) (.int .i64 (y.be + b0))).setCell (p := ⟨gq, j * 3 + 2, none⟩) (by exact hgb) (.int .i64 (y.lv + b0))
           have hs3' := Lib.hid hs3
           have hA9' := Lib.hid hA9
           have ho9' := Lib.hid ho9
           have hb9' := Lib.hid hb9
           clear hs1 hs2 hs3 hA9 ho9 hb9 hnx hown2 htw2 hAw2 hbw2
           go_wp2_with fail
           exact ⟨⟨j + 1, by simp, hlt, ho9'.out, hs3'.out, hA9'.out, hb9'.out⟩, by simp only [intOf]; omega⟩
         · obtain rfl : j = Ns := by omega
           have hfull : mixF (shT b0) ts j = ts.map (shT b0) := by rw [← hNs.out]; exact mixF_all
           rw [hfull] at htw
           have hq2 := Lib.hid (Rqs.of_owns hown (by rw [List.length_map, hNr.out]) (Nat.le_refl _))
           have ht2 := Lib.hid (Tms.of_owns htw (by rw [List.length_map, hNs.out]) (Nat.le_refl _))
           have hroW := Lib.hid (hro5.out.on hbw)
           have hqrW := Lib.hid (hqr5.out.on hbw)
           have htsW := Lib.hid (hts5.out.on hbw)
           have hVW := hV5'.out.keep hbw hV5'.out.inside
           have hgW := Lib.hid (hg5.out.on hbw)
           have hBW := Lib.hid (hB5.out.trans (hbw.mono hB5.out.size))
           obtain ⟨⟨F1, F2, F3⟩, kF1⟩ : ∃ F, faultV v l t = F := ⟨_, rfl⟩
           have kF2 := hmv.out.1
           rw [kF1] at kF2
           obtain ⟨R, kR1⟩ : ∃ R, rightB v l t ts = R := ⟨_, rfl⟩
           have kR2 := hmv.out.2
           rw [kR1] at kR2
           have hFR : F1 ≠ 0 → R = false := fun h => by
             cases R
             · rfl
             · exact absurd (by have := (right_some hDr.out kR1).1; rw [kF1] at this; exact this) h
           have kF1' := Lib.hid kF1
           have kF2' := Lib.hid kF2
           have kR1' := Lib.hid kR1
           have kR2' := Lib.hid kR2
           clear hfull hown htw hbw hro5 hqr5 hts5 hV5' hg5 hB5 htc htb' kF1 kF2 kR1 kR2
           go_upto_region 17 with fail
           refine Sched.wp_region_sched 8 (fun W W' => Below W.heap.size W W') (VK [.val (.agg #[.int .i64 v.hx, .int .i64 v.hy, .int .i64 v.cp, .int .i64 v.st, .int .i64 v.en]), .val (uo), .val (.slice xr k cr), .of (fun v w => ErrAt w v (F1, F2, F3)) (fun h hb => ErrAt.on h hb), .val (.agg #[.int .i64 v.hx, .int .i64 v.hy, .int .i64 v.cp, .int .i64 (v.st + b0), .int .i64 (v.en + b0)]), .val (uo), .val (.slice x6 k c6), .of (fun v w => ErrAt w v (F1, F2, F3)) (fun h hb => ErrAt.on h hb)]) (fun _ _ _ => True) (by kernel_rfl) (by kernel_rfl) (by kernel_rfl) (fun h1 h2 => belowTr h1 h2) (fun h1 h2 => VK.keep h1 h2) (Below.refl _ _).drew (fun _ => trivial) (Sched.StepsA.steps (by kernel_rfl) ?hSC) ?hQC
           case hSC =>
            simp only [List.take_succ_cons, List.take_zero]
            refine ⟨?_, ?_, ?_, ?_, ?_, ?_, ?_, ?_, trivial⟩
            · intro ys done W aa hE hn hF hD hZ hG hO
              replace hE : Below wr.heap.size wr W := hE
              have o7 := hO 7 (by kernel_rfl)
              replace o7 : aa.tmps[7]? = some (.pointer (some ⟨n, 0, none⟩)) := o7
              have hAt := hVW.keep hE hVW.inside
              have p0 := hAt.cell 0
              have p1 := hAt.cell 1
              have p2 := hAt.cell 2
              have p3 := hAt.cell 3
              have p4 := hAt.cell 4
              simp at p0 p1 p2 p3 p4
              clear hAt
              go_wp2_with fail
              first | exact ⟨_, rfl, Below.refl _ _, VK.val rfl rfl, trivial⟩ | exact ⟨_, rfl, Below.refl _ _, VK.val rfl rfl⟩
            · intro ys done W aa hE hn hF hD hZ hG hO
              replace hE : Below wr.heap.size wr W := hE
              have o8 := hO 8 (by kernel_rfl)
              replace o8 : aa.tmps[8]? = some (uo) := o8
              go_wp2_with fail
              first | exact ⟨_, rfl, Below.refl _ _, VK.val rfl rfl, trivial⟩ | exact ⟨_, rfl, Below.refl _ _, VK.val rfl rfl⟩
            · intro ys done W aa hE hn hF hD hZ hG hO
              replace hE : Below wr.heap.size wr W := hE
              have o9 := hO 9 (by kernel_rfl)
              replace o9 : aa.tmps[9]? = some (.slice xr k cr) := o9
              go_wp2_with fail
              first | exact ⟨_, rfl, Below.refl _ _, VK.val rfl rfl, trivial⟩ | exact ⟨_, rfl, Below.refl _ _, VK.val rfl rfl⟩
            · intro ys done W aa hE hn hF hD hZ hG hO
              replace hE : Below wr.heap.size wr W := hE
              have v0 := (hF 0 (by decide) (hD 0 (by kernel_rfl))).eq rfl
              have g0 := hG 0 130 rfl (Nat.le_of_ble_eq_true rfl)
              rw [v0] at g0
              have v1 := (hF 1 (by decide) (hD 1 (by kernel_rfl))).eq rfl
              have g1 := hG 1 131 rfl (Nat.le_of_ble_eq_true rfl)
              rw [v1] at g1
              have v2 := (hF 2 (by decide) (hD 2 (by kernel_rfl))).eq rfl
              have g2 := hG 2 132 rfl (Nat.le_of_ble_eq_true rfl)
              rw [v2] at g2
              go_wp2_with fail
              refine (Check_any v uo _ l t (by have := hl12.out; omega) hnum.out W (hroW.out.on hE) (hqrW.out.on hE)).mono ?_
              rintro e W' ⟨⟨u, rfl, hu⟩, hb'⟩
              rw [kF1'.out] at hu
              replace hb' := Lib.hid hb'
              replace hu := Lib.hid hu
              go_wp2_with fail
              first | exact ⟨_, rfl, hb'.out, VK.of rfl hu.out, trivial⟩ | exact ⟨_, rfl, hb'.out, VK.of rfl hu.out⟩
            · intro ys done W aa hE hn hF hD hZ hG hO
              replace hE : Below wr.heap.size wr W := hE
              have o12 := hO 12 (by kernel_rfl)
              replace o12 : aa.tmps[12]? = some (.pointer (some ⟨gw, 0, none⟩)) := o12
              have hAt := hAw.keep hE hAw.inside
              have p0 := hAt.cell 0
              have p1 := hAt.cell 1
              have p2 := hAt.cell 2
              have p3 := hAt.cell 3
              have p4 := hAt.cell 4
              simp at p0 p1 p2 p3 p4
              clear hAt
              go_wp2_with fail
              first | exact ⟨_, rfl, Below.refl _ _, VK.val rfl rfl, trivial⟩ | exact ⟨_, rfl, Below.refl _ _, VK.val rfl rfl⟩
            · intro ys done W aa hE hn hF hD hZ hG hO
              replace hE : Below wr.heap.size wr W := hE
              have o8 := hO 8 (by kernel_rfl)
              replace o8 : aa.tmps[8]? = some (uo) := o8
              go_wp2_with fail
              first | exact ⟨_, rfl, Below.refl _ _, VK.val rfl rfl, trivial⟩ | exact ⟨_, rfl, Below.refl _ _, VK.val rfl rfl⟩
            · intro ys done W aa hE hn hF hD hZ hG hO
              replace hE : Below wr.heap.size wr W := hE
              have o13 := hO 13 (by kernel_rfl)
              replace o13 : aa.tmps[13]? = some (.slice x6 k c6) := o13
              go_wp2_with fail
              first | exact ⟨_, rfl, Below.refl _ _, VK.val rfl rfl, trivial⟩ | exact ⟨_, rfl, Below.refl _ _, VK.val rfl rfl⟩
            · intro ys done W aa hE hn hF hD hZ hG hO
              replace hE : Below wr.heap.size wr W := hE
              have v4 := (hF 4 (by decide) (hD 4 (by kernel_rfl))).eq rfl
              have g4 := hG 4 134 rfl (Nat.le_of_ble_eq_true rfl)
              rw [v4] at g4
              have v5 := (hF 5 (by decide) (hD 5 (by kernel_rfl))).eq rfl
              have g5 := hG 5 135 rfl (Nat.le_of_ble_eq_true rfl)
              rw [v5] at g5
              have v6 := (hF 6 (by decide) (hD 6 (by kernel_rfl))).eq rfl
              have g6 := hG 6 136 rfl (Nat.le_of_ble_eq_true rfl)
              rw [v6] at g6
              go_wp2_with fail
              refine (Check_any (shH b0 v) uo _ l (t.map (shQ b0)) (by have := hl12.out; omega) hnum.out W (hroW.out.on hE) (hq2.out.on hE)).mono ?_
              rintro e W' ⟨⟨u, rfl, hu⟩, hb'⟩
              rw [kF2'.out] at hu
              replace hb' := Lib.hid hb'
              replace hu := Lib.hid hu
              go_wp2_with fail
              first | exact ⟨_, rfl, hb'.out, VK.of rfl hu.out, trivial⟩ | exact ⟨_, rfl, hb'.out, VK.of rfl hu.out⟩
           case hQC =>
            intro ys w20 hE hF _
            replace hE : Below wr.heap.size wr w20 := hE
            have v3 := (hF 3 (by decide)).get rfl
            have v7 := (hF 7 (by decide)).get rfl
            have hroX := Lib.hid (hroW.out.on hE)
            have hqrX := Lib.hid (hqrW.out.on hE)
            have hq2X := Lib.hid (hq2.out.on hE)
            have htsX := Lib.hid (htsW.out.on hE)
            have ht2X := Lib.hid (ht2.out.on hE)
            have hVX := hVW.keep hE hVW.inside
            have hAX := hAw.keep hE hAw.inside
            have hgX := Lib.hid (hgW.out.on hE)
            have hBX := Lib.hid (hBW.out.trans (hE.mono hBW.out.size))
            simp only [List.take_succ_cons, List.take_zero, List.drop_succ_cons, List.drop_zero, Sched.fill]
            clear hF 
            go_simp
            clear hroW hqrW hq2 htsW ht2 hVW hAw hgW hBW hE
            rcases v3 with ⟨e1, e3⟩ | ⟨e1, q1, e3, hq1⟩
            · rcases v7 with ⟨-, e7⟩ | ⟨e2, -⟩
              case inr => exact absurd e1 e2
              rw [e3, e7]
              clear e3 e7 hFR e1
              go_upto_region 19 with fail
              refine Sched.wp_region_sched 19 (fun W W' => Below W.heap.size W W') (VK [.val (.nilIface), .val (.bool true), .val (.bool true), .val (.nilIface), .val (.bool true), .val (.bool true), .val (.bool true), .val (.agg #[.int .i64 v.hx, .int .i64 v.hy, .int .i64 v.cp, .int .i64 v.st, .int .i64 v.en]), .val (uo), .val (.slice xr k cr), .val (.slice xs j cs), .val (.bool R), .val (.agg #[.int .i64 v.hx, .int .i64 v.hy, .int .i64 v.cp, .int .i64 (v.st + b0), .int .i64 (v.en + b0)]), .val (uo), .val (.slice x6 k c6), .val (.slice x7 j c7), .val (.bool R), .val (.bool true), .val (.bool true)]) (fun _ _ _ => True) (by kernel_rfl) (by kernel_rfl) (by kernel_rfl) (fun h1 h2 => belowTr h1 h2) (fun h1 h2 => VK.keep h1 h2) (Below.refl _ _).drew (fun _ => trivial) (Sched.StepsA.steps (by kernel_rfl) ?hSD) ?hQD
              case hSD =>
               simp only [List.take_succ_cons, List.take_zero]
               refine ⟨?_, ?_, ?_, ?_, ?_, ?_, ?_, ?_, ?_, ?_, ?_, ?_, ?_, ?_, ?_, ?_, ?_, ?_, ?_, trivial⟩
               · intro ys done W aa hE hn hF hD hZ hG hO
                 replace hE : Below w20.heap.size w20 W := hE
                 have o17 := hO 17 (by kernel_rfl)
                 replace o17 : aa.tmps[17]? = some (.nilIface) := o17
                 go_wp2_with fail
                 first | exact ⟨_, rfl, Below.refl _ _, VK.val rfl rfl, trivial⟩ | exact ⟨_, rfl, Below.refl _ _, VK.val rfl rfl⟩
               · intro ys done W aa hE hn hF hD hZ hG hO
                 replace hE : Below w20.heap.size w20 W := hE
                 have v0 := (hF 0 (by decide) (hD 0 (by kernel_rfl))).eq rfl
                 have g0 := hG 0 144 rfl (Nat.le_of_ble_eq_true rfl)
                 rw [v0] at g0
                 go_wp2_with fail
                 first | exact ⟨_, rfl, Below.refl _ _, VK.val rfl rfl, trivial⟩ | exact ⟨_, rfl, Below.refl _ _, VK.val rfl rfl⟩
               · intro ys done W aa hE hn hF hD hZ hG hO
                 replace hE : Below w20.heap.size w20 W := hE
                 have v1 := (hF 1 (by decide) (hD 1 (by kernel_rfl))).eq rfl
                 have g1 := hG 1 145 rfl (Nat.le_of_ble_eq_true rfl)
                 rw [v1] at g1
                 go_wp2_with fail
                 first | exact ⟨_, rfl, Below.refl _ _, VK.val rfl rfl, trivial⟩ | exact ⟨_, rfl, Below.refl _ _, VK.val rfl rfl⟩
               · intro ys done W aa hE hn hF hD hZ hG hO
                 replace hE : Below w20.heap.size w20 W := hE
                 have v2 := (hF 2 (by decide) (hD 2 (by kernel_rfl))).eq rfl
                 have g2 := hG 2 146 rfl (Nat.le_of_ble_eq_true rfl)
                 rw [v2] at g2
                 refine BigFrame.wpList_want (by simp [Region.wanted, yielded, g2]) ?_
                 intro K hK
                 have o18 := hO 18 (by kernel_rfl)
                 replace o18 : aa.tmps[18]? = some (.nilIface) := o18
                 go_wp2_with fail
                 first | exact ⟨_, rfl, Below.refl _ _, VK.val rfl rfl, trivial⟩ | exact ⟨_, rfl, Below.refl _ _, VK.val rfl rfl⟩
               · intro ys done W aa hE hn hF hD hZ hG hO
                 replace hE : Below w20.heap.size w20 W := hE
                 have v2 := (hF 2 (by decide) (hD 2 (by kernel_rfl))).eq rfl
                 have g2 := hG 2 146 rfl (Nat.le_of_ble_eq_true rfl)
                 rw [v2] at g2
                 refine BigFrame.wpList_want (by simp [Region.wanted, yielded, g2]) ?_
                 intro K hK
                 have v3 := (hF 3 (by decide) (hD 3 (by kernel_rfl))).eq rfl
                 have g3 := hG 3 147 rfl (Nat.le_of_ble_eq_true rfl)
                 rw [v3] at g3
                 go_wp2_with fail
                 first | exact ⟨_, rfl, Below.refl _ _, VK.val rfl rfl, trivial⟩ | exact ⟨_, rfl, Below.refl _ _, VK.val rfl rfl⟩
               · intro ys done W aa hE hn hF hD hZ hG hO
                 replace hE : Below w20.heap.size w20 W := hE
                 have v2 := (hF 2 (by decide) (hD 2 (by kernel_rfl))).eq rfl
                 have g2 := hG 2 146 rfl (Nat.le_of_ble_eq_true rfl)
                 rw [v2] at g2
                 have v4 := (hF 4 (by decide) (hD 4 (by kernel_rfl))).eq rfl
                 have g4 := hG 4 148 rfl (Nat.le_of_ble_eq_true rfl)
                 rw [v4] at g4
                 go_wp2_with fail
                 first | exact ⟨_, rfl, Below.refl _ _, VK.val rfl rfl, trivial⟩ | exact ⟨_, rfl, Below.refl _ _, VK.val rfl rfl⟩
               · intro ys done W aa hE hn hF hD hZ hG hO
                 replace hE : Below w20.heap.size w20 W := hE
                 have v5 := (hF 5 (by decide) (hD 5 (by kernel_rfl))).eq rfl
                 have g5 := hG 5 149 rfl (Nat.le_of_ble_eq_true rfl)
                 rw [v5] at g5
                 go_wp2_with fail
                 first | exact ⟨_, rfl, Below.refl _ _, VK.val rfl rfl, trivial⟩ | exact ⟨_, rfl, Below.refl _ _, VK.val rfl rfl⟩
               · intro ys done W aa hE hn hF hD hZ hG hO
                 replace hE : Below w20.heap.size w20 W := hE
                 have v6 := (hF 6 (by decide) (hD 6 (by kernel_rfl))).eq rfl
                 have g6 := hG 6 150 rfl (Nat.le_of_ble_eq_true rfl)
                 rw [v6] at g6
                 refine BigFrame.wpList_want (by simp [Region.wanted, yielded, g6]) ?_
                 intro K hK
                 have o7 := hO 7 (by kernel_rfl)
                 replace o7 : aa.tmps[7]? = some (.pointer (some ⟨n, 0, none⟩)) := o7
                 have hAt := hVX.keep hE hVX.inside
                 have p0 := hAt.cell 0
                 have p1 := hAt.cell 1
                 have p2 := hAt.cell 2
                 have p3 := hAt.cell 3
                 have p4 := hAt.cell 4
                 simp at p0 p1 p2 p3 p4
                 clear hAt
                 go_wp2_with fail
                 first | exact ⟨_, rfl, Below.refl _ _, VK.val rfl rfl, trivial⟩ | exact ⟨_, rfl, Below.refl _ _, VK.val rfl rfl⟩
               · intro ys done W aa hE hn hF hD hZ hG hO
                 replace hE : Below w20.heap.size w20 W := hE
                 have v6 := (hF 6 (by decide) (hD 6 (by kernel_rfl))).eq rfl
                 have g6 := hG 6 150 rfl (Nat.le_of_ble_eq_true rfl)
                 rw [v6] at g6
                 refine BigFrame.wpList_want (by simp [Region.wanted, yielded, g6]) ?_
                 intro K hK
                 have o8 := hO 8 (by kernel_rfl)
                 replace o8 : aa.tmps[8]? = some (uo) := o8
                 go_wp2_with fail
                 first | exact ⟨_, rfl, Below.refl _ _, VK.val rfl rfl, trivial⟩ | exact ⟨_, rfl, Below.refl _ _, VK.val rfl rfl⟩
               · intro ys done W aa hE hn hF hD hZ hG hO
                 replace hE : Below w20.heap.size w20 W := hE
                 have v6 := (hF 6 (by decide) (hD 6 (by kernel_rfl))).eq rfl
                 have g6 := hG 6 150 rfl (Nat.le_of_ble_eq_true rfl)
                 rw [v6] at g6
                 refine BigFrame.wpList_want (by simp [Region.wanted, yielded, g6]) ?_
                 intro K hK
                 have o9 := hO 9 (by kernel_rfl)
                 replace o9 : aa.tmps[9]? = some (.slice xr k cr) := o9
                 go_wp2_with fail
                 first | exact ⟨_, rfl, Below.refl _ _, VK.val rfl rfl, trivial⟩ | exact ⟨_, rfl, Below.refl _ _, VK.val rfl rfl⟩
               · intro ys done W aa hE hn hF hD hZ hG hO
                 replace hE : Below w20.heap.size w20 W := hE
                 have v6 := (hF 6 (by decide) (hD 6 (by kernel_rfl))).eq rfl
                 have g6 := hG 6 150 rfl (Nat.le_of_ble_eq_true rfl)
                 rw [v6] at g6
                 refine BigFrame.wpList_want (by simp [Region.wanted, yielded, g6]) ?_
                 intro K hK
                 have o10 := hO 10 (by kernel_rfl)
                 replace o10 : aa.tmps[10]? = some (.slice xs j cs) := o10
                 go_wp2_with fail
                 first | exact ⟨_, rfl, Below.refl _ _, VK.val rfl rfl, trivial⟩ | exact ⟨_, rfl, Below.refl _ _, VK.val rfl rfl⟩
               · intro ys done W aa hE hn hF hD hZ hG hO
                 replace hE : Below w20.heap.size w20 W := hE
                 have v6 := (hF 6 (by decide) (hD 6 (by kernel_rfl))).eq rfl
                 have g6 := hG 6 150 rfl (Nat.le_of_ble_eq_true rfl)
                 rw [v6] at g6
                 refine BigFrame.wpList_want (by simp [Region.wanted, yielded, g6]) ?_
                 intro K hK
                 have v7 := (hF 7 (by decide) (hD 7 (by kernel_rfl))).eq rfl
                 have g7 := hG 7 151 rfl (Nat.le_of_ble_eq_true rfl)
                 rw [v7] at g7
                 have v8 := (hF 8 (by decide) (hD 8 (by kernel_rfl))).eq rfl
                 have g8 := hG 8 152 rfl (Nat.le_of_ble_eq_true rfl)
                 rw [v8] at g8
                 have v9 := (hF 9 (by decide) (hD 9 (by kernel_rfl))).eq rfl
                 have g9 := hG 9 153 rfl (Nat.le_of_ble_eq_true rfl)
                 rw [v9] at g9
                 have v10 := (hF 10 (by decide) (hD 10 (by kernel_rfl))).eq rfl
                 have g10 := hG 10 154 rfl (Nat.le_of_ble_eq_true rfl)
                 rw [v10] at g10
                 go_wp2_with fail
                 refine (Right_any v uo _ _ l t ts (by have := hl12.out; omega) hnum.out W (hroX.out.on hE) (hqrX.out.on hE) (htsX.out.on hE)).mono ?_
                 rintro e W' ⟨rfl, hb'⟩
                 rw [kR1'.out]
                 replace hb' := Lib.hid hb'
                 go_wp2_with fail
                 first | exact ⟨_, rfl, hb'.out, VK.val rfl rfl, trivial⟩ | exact ⟨_, rfl, hb'.out, VK.val rfl rfl⟩
               · intro ys done W aa hE hn hF hD hZ hG hO
                 replace hE : Below w20.heap.size w20 W := hE
                 have v6 := (hF 6 (by decide) (hD 6 (by kernel_rfl))).eq rfl
                 have g6 := hG 6 150 rfl (Nat.le_of_ble_eq_true rfl)
                 rw [v6] at g6
                 refine BigFrame.wpList_want (by simp [Region.wanted, yielded, g6]) ?_
                 intro K hK
                 have o12 := hO 12 (by kernel_rfl)
                 replace o12 : aa.tmps[12]? = some (.pointer (some ⟨gw, 0, none⟩)) := o12
                 have hAt := hAX.keep hE hAX.inside
                 have p0 := hAt.cell 0
                 have p1 := hAt.cell 1
                 have p2 := hAt.cell 2
                 have p3 := hAt.cell 3
                 have p4 := hAt.cell 4
                 simp at p0 p1 p2 p3 p4
                 clear hAt
                 go_wp2_with fail
                 first | exact ⟨_, rfl, Below.refl _ _, VK.val rfl rfl, trivial⟩ | exact ⟨_, rfl, Below.refl _ _, VK.val rfl rfl⟩
               · intro ys done W aa hE hn hF hD hZ hG hO
                 replace hE : Below w20.heap.size w20 W := hE
                 have v6 := (hF 6 (by decide) (hD 6 (by kernel_rfl))).eq rfl
                 have g6 := hG 6 150 rfl (Nat.le_of_ble_eq_true rfl)
                 rw [v6] at g6
                 refine BigFrame.wpList_want (by simp [Region.wanted, yielded, g6]) ?_
                 intro K hK
                 have o8 := hO 8 (by kernel_rfl)
                 replace o8 : aa.tmps[8]? = some (uo) := o8
                 go_wp2_with fail
                 first | exact ⟨_, rfl, Below.refl _ _, VK.val rfl rfl, trivial⟩ | exact ⟨_, rfl, Below.refl _ _, VK.val rfl rfl⟩
               · intro ys done W aa hE hn hF hD hZ hG hO
                 replace hE : Below w20.heap.size w20 W := hE
                 have v6 := (hF 6 (by decide) (hD 6 (by kernel_rfl))).eq rfl
                 have g6 := hG 6 150 rfl (Nat.le_of_ble_eq_true rfl)
                 rw [v6] at g6
                 refine BigFrame.wpList_want (by simp [Region.wanted, yielded, g6]) ?_
                 intro K hK
                 have o13 := hO 13 (by kernel_rfl)
                 replace o13 : aa.tmps[13]? = some (.slice x6 k c6) := o13
                 go_wp2_with fail
                 first | exact ⟨_, rfl, Below.refl _ _, VK.val rfl rfl, trivial⟩ | exact ⟨_, rfl, Below.refl _ _, VK.val rfl rfl⟩
               · intro ys done W aa hE hn hF hD hZ hG hO
                 replace hE : Below w20.heap.size w20 W := hE
                 have v6 := (hF 6 (by decide) (hD 6 (by kernel_rfl))).eq rfl
                 have g6 := hG 6 150 rfl (Nat.le_of_ble_eq_true rfl)
                 rw [v6] at g6
                 refine BigFrame.wpList_want (by simp [Region.wanted, yielded, g6]) ?_
                 intro K hK
                 have o14 := hO 14 (by kernel_rfl)
                 replace o14 : aa.tmps[14]? = some (.slice x7 j c7) := o14
                 go_wp2_with fail
                 first | exact ⟨_, rfl, Below.refl _ _, VK.val rfl rfl, trivial⟩ | exact ⟨_, rfl, Below.refl _ _, VK.val rfl rfl⟩
               · intro ys done W aa hE hn hF hD hZ hG hO
                 replace hE : Below w20.heap.size w20 W := hE
                 have v6 := (hF 6 (by decide) (hD 6 (by kernel_rfl))).eq rfl
                 have g6 := hG 6 150 rfl (Nat.le_of_ble_eq_true rfl)
                 rw [v6] at g6
                 refine BigFrame.wpList_want (by simp [Region.wanted, yielded, g6]) ?_
                 intro K hK
                 have v12 := (hF 12 (by decide) (hD 12 (by kernel_rfl))).eq rfl
                 have g12 := hG 12 156 rfl (Nat.le_of_ble_eq_true rfl)
                 rw [v12] at g12
                 have v13 := (hF 13 (by decide) (hD 13 (by kernel_rfl))).eq rfl
                 have g13 := hG 13 157 rfl (Nat.le_of_ble_eq_true rfl)
                 rw [v13] at g13
                 have v14 := (hF 14 (by decide) (hD 14 (by kernel_rfl))).eq rfl
                 have g14 := hG 14 158 rfl (Nat.le_of_ble_eq_true rfl)
                 rw [v14] at g14
                 have v15 := (hF 15 (by decide) (hD 15 (by kernel_rfl))).eq rfl
                 have g15 := hG 15 159 rfl (Nat.le_of_ble_eq_true rfl)
                 rw [v15] at g15
                 go_wp2_with fail
                 refine (Right_any (shH b0 v) uo _ _ l (t.map (shQ b0)) (ts.map (shT b0)) (by have := hl12.out; omega) hnum.out W (hroX.out.on hE) (hq2X.out.on hE) (ht2X.out.on hE)).mono ?_
                 rintro e W' ⟨rfl, hb'⟩
                 rw [kR2'.out]
                 replace hb' := Lib.hid hb'
                 go_wp2_with fail
                 first | exact ⟨_, rfl, hb'.out, VK.val rfl rfl, trivial⟩ | exact ⟨_, rfl, hb'.out, VK.val rfl rfl⟩
               · intro ys done W aa hE hn hF hD hZ hG hO
                 replace hE : Below w20.heap.size w20 W := hE
                 have v6 := (hF 6 (by decide) (hD 6 (by kernel_rfl))).eq rfl
                 have g6 := hG 6 150 rfl (Nat.le_of_ble_eq_true rfl)
                 rw [v6] at g6
                 refine BigFrame.wpList_want (by simp [Region.wanted, yielded, g6]) ?_
                 intro K hK
                 have v11 := (hF 11 (by decide) (hD 11 (by kernel_rfl))).eq rfl
                 have g11 := hG 11 155 rfl (Nat.le_of_ble_eq_true rfl)
                 rw [v11] at g11
                 have v16 := (hF 16 (by decide) (hD 16 (by kernel_rfl))).eq rfl
                 have g16 := hG 16 160 rfl (Nat.le_of_ble_eq_true rfl)
                 rw [v16] at g16
                 go_wp2_with fail
                 first | exact ⟨_, rfl, Below.refl _ _, VK.val rfl rfl, trivial⟩ | exact ⟨_, rfl, Below.refl _ _, VK.val rfl rfl⟩
               · intro ys done W aa hE hn hF hD hZ hG hO
                 replace hE : Below w20.heap.size w20 W := hE
                 have v6 := (hF 6 (by decide) (hD 6 (by kernel_rfl))).eq rfl
                 have g6 := hG 6 150 rfl (Nat.le_of_ble_eq_true rfl)
                 rw [v6] at g6
                 have v17 := (hF 17 (by decide) (hD 17 (by kernel_rfl))).eq rfl
                 have g17 := hG 17 161 rfl (Nat.le_of_ble_eq_true rfl)
                 rw [v17] at g17
                 go_wp2_with fail
                 first | exact ⟨_, rfl, Below.refl _ _, VK.val rfl rfl, trivial⟩ | exact ⟨_, rfl, Below.refl _ _, VK.val rfl rfl⟩
              case hQD =>
               intro ys w21 hE hF _
               replace hE : Below w20.heap.size w20 w21 := hE
               have v18 := (hF 18 (by decide)).eq rfl
               have hB21 := hBX.out.trans (hE.mono hBX.out.size)
               simp only [List.take_succ_cons, List.take_zero, List.drop_succ_cons, List.drop_zero, Sched.fill, v18]
               clear hF v18
               go_simp
               clear hE
               go_wp2
               go_ret
               exact ⟨rfl, hB21⟩
            · rcases v7 with ⟨e2, -⟩ | ⟨-, q2, e7, hq2'⟩
              case inl => exact absurd e2 e1
              rw [e3, e7]
              obtain rfl : R = false := hFR e1
              have hErr1 : ErrAt w20 (.iface 92 (.pointer (some ⟨q1, 0, none⟩))) (F1, F2, F3) := Or.inr ⟨e1, q1, rfl, hq1⟩
              have hErr2 : ErrAt w20 (.iface 92 (.pointer (some ⟨q2, 0, none⟩))) (F1, F2, F3) := Or.inr ⟨e1, q2, rfl, hq2'⟩
              have hErr2' := Lib.hid hErr2
              have hT1 := Told_any _ (F1, F2, F3) w20 hgX.out hErr1 (fun h => absurd h e1)
              have hVX' := Lib.hid hVX
              have hAX' := Lib.hid hAX
              clear hErr1 hErr2 hq1 hq2' hVX hAX e3 e7 hFR
              go_wp2_with fail
              refine hT1.mono ?_
              clear hT1
              rintro e w21 ⟨rfl, hb21⟩
              have hT2 := Told_any _ (F1, F2, F3) w21 (hgX.out.on hb21) (hErr2'.out.on hb21) (fun h => absurd h e1)
              have hb21' := Lib.hid hb21
              clear hb21
              go_wp2_with fail
              refine hT2.mono ?_
              clear hT2
              rintro e w22 ⟨rfl, hb22⟩
              have hb := Lib.hid (hb21'.out.trans (hb22.mono hb21'.out.size))
              have hc1 := Right_any v uo _ _ l t ts (by have := hl12.out; omega) hnum.out w22 (hroX.out.on hb.out) (hqrX.out.on hb.out) (htsX.out.on hb.out)
              rw [kR1'.out] at hc1
              have hVY := hVX'.out.keep hb.out hVX'.out.inside
              have p0 := hVY.cell 0
              have p1 := hVY.cell 1
              have p2 := hVY.cell 2
              have p3 := hVY.cell 3
              have p4 := hVY.cell 4
              simp at p0 p1 p2 p3 p4
              clear hVY hb22 hb21'
              go_wp2_with fail
              refine hc1.mono ?_
              clear hc1 p0 p1 p2 p3 p4
              rintro e w23 ⟨rfl, hb23⟩
              have hbz := Lib.hid (hb.out.trans (hb23.mono hb.out.size))
              have hc2 := Right_any (shH b0 v) uo _ _ l (t.map (shQ b0)) (ts.map (shT b0)) (by have := hl12.out; omega) hnum.out w23 (hroX.out.on hbz.out) (hq2X.out.on hbz.out) (ht2X.out.on hbz.out)
              rw [kR2'.out] at hc2
              have hAY := hAX'.out.keep hbz.out hAX'.out.inside
              have p0 := hAY.cell 0
              have p1 := hAY.cell 1
              have p2 := hAY.cell 2
              have p3 := hAY.cell 3
              have p4 := hAY.cell 4
              simp at p0 p1 p2 p3 p4
              clear hAY hb23
              go_wp2_with fail
              refine hc2.mono ?_
              clear hc2 p0 p1 p2 p3 p4
              rintro e w24 ⟨rfl, hb24⟩
              have hBz := hBX.out.trans ((hbz.out.trans (hb24.mono hbz.out.size)).mono hBX.out.size)
              clear hb24
              go_wp2
              go_ret
              exact ⟨rfl, hBz⟩
end Go.Proofs.YteefkijmodcijaaDoor.feasMoved

import Derived.Test.YteclpblfleakhaaGreatDoorPkPriceParts
import Derived.Test.YteclpblfleakhaaGreatDoorPkPlanPPrice

namespace Go.Proofs.YteclpblfleakhaaGreatDoor.Plan
open Go.RowKit Go.Sort Go.Proofs.YteclpblfleakhaaGreatDoor.Mem Go.Proofs.YteclpblfleakhaaGreatDoor.Route Go.Proofs.YteclpblfleakhaaGreatDoor.When Go.Proofs.YteclpblfleakhaaGreatDoor.Load Go.Proofs.YteclpblfleakhaaGreatDoor.Ins Go.Proofs.YteclpblfleakhaaGreatDoor.Cheap Go.Proofs.YteclpblfleakhaaGreatDoor.Feas
set_option linter.unusedVariables false
set_option maxRecDepth 100000 in
set_option maxHeartbeats 8000000 in
theorem Put_any {D G : Nat → Prop} {p : Nat} {S : St} (r : Int) (w : World) (h : PlanAt D G w p S) (ho : Ok S) (hsg : Sg w) :
 Calls Tryz.prog 20 #[.pointer (some ⟨p, 0, none⟩), .int .i64 r] w fun e w' =>
  e = .returned (.tuple #[.int .i64 (priceN S r), .int .i64 (priceE S r)]) ∧ (∃ D' G', PlanAt D' G' w' p (putS S r) ∧ Grew D D' w w' ∧ ∀ k, G' k → G k ∨ w.heap.size ≤ k) ∧ Chg G w w' := by
 have hPr := Price_any r w h ho hsg
 have hin9 := Lib.hid h
 obtain ⟨gt, gm, vt, cap, us, h⟩ := h
 obtain ⟨xt, Nt, ct, rfl, hNt0, htc1, htc2, -⟩ := Rqs.opened (show Rqs w.heap.size w vt S.t from h.t.1)
 obtain ⟨hc1, hc2⟩ := h.bd
 unfold maxLen at htc2 hc2
 obtain ⟨N, hN0⟩ : ∃ N, S.vs.length = N := ⟨_, rfl⟩
 have hN4 : N ≤ 4 := by rw [← hN0]; exact ho.cnt.2
 rw [hN0] at hc1
 have hcells : Hid (∀ W, ProgAt D G W p gt gm (.slice xt Nt ct) cap us S → p < W.heap.size ∧ W.cell? ⟨p, 0, none⟩ = some (.slice (some ⟨gt, 0, none⟩) N cap) ∧ W.cell? ⟨p, 1, none⟩ = some (.slice xt Nt ct) ∧ W.cell? ⟨p, 2, none⟩ = some (.map (some gm)) ∧ gt < W.heap.size) := Lib.hid (fun W hW => by
  have c0 := hW.box.cell 0
  have c1 := hW.box.cell 1
  have c2 := hW.box.cell 2
  rw [hN0] at c0
  exact ⟨hW.box.inside, by simpa using c0, by simpa using c1, by simpa using c2, hW.gtIn⟩)
 have h' := Lib.hid h
 have ho' := Lib.hid ho
 have hN := Lib.hid hN0
 have hsg' := Lib.hid hsg
 have htl : Nt ≤ 1000 := by rw [← hNt0]; exact ho.tl
 obtain ⟨E, hE0⟩ : ∃ E, priceE S r = E := ⟨_, rfl⟩
 obtain ⟨I, hI0⟩ : ∃ I, priceI S r = I := ⟨_, rfl⟩
 obtain ⟨n, hn0⟩ : ∃ n, priceN S r = n := ⟨_, rfl⟩
 rw [hE0, hI0, hn0] at hPr
 rw [hE0, hn0]
 have hEE := Lib.hid hE0
 have hII := Lib.hid hI0
 have hnn := Lib.hid hn0
 clear h ho hN0 hsg hE0 hI0 hn0 hNt0
 go_enter Tryz.func20, Tryz.ntmps20
 go_wp2_with fail
 refine hPr.mono ?_
 clear hPr
 rintro e wr ⟨rfl, hbr⟩
 have hA0 := Lib.hid (h'.out.on hbr)
 have hBr := Lib.hid hbr
 have hsg1 := Lib.hid (hsg'.out.on hbr)
 clear hbr
 cases hE0 : (E == 0)
 · have hE1 : (E != 0) = true := by simpa using hE0
   have hno := Lib.hid (putS_no (S := S) (r := r) (by rw [hEE.out]; simpa using hE0))
   have hz := Lib.hid (price_no (S := S) (r := r) (by rw [hEE.out]; simpa using hE0))
   go_wp2
   refine bodyPost_ret (v := .tuple #[.int .i64 0, .int .i64 E]) (by simp [results, Tryz.results20, go_sem]) rfl ?_
   exact ⟨ret_put2 (by rw [← hnn.out, hz.out.2]) rfl, ⟨D, G, by rw [hno.out]; exact ⟨_, _, _, _, _, hA0.out⟩, Grew.same h'.out.lt hBr.out.size, fun k hk => .inl hk⟩, Chg.of_below hBr.out⟩
 have hE1 : (E != 0) = false := by simpa using hE0
 obtain rfl : E = 0 := by simpa using hE0
 obtain ⟨i, v, l, m, hp⟩ := put_at ho'.out hEE.out
 obtain rfl : I = i := by rw [← hII.out]; exact hp.idx
 have hwn := Lib.hid (priceE_zero hEE.out).2.1
 have hrin := inT_iff.1 (priceE_zero hEE.out).1
 have hrI : I64 r := by have := ho'.out.tl; exact ⟨by omega, by omega⟩
 have hlt : i < S.vs.length := (List.getElem?_eq_some_iff.1 hp.vat).1
 have hput := Lib.hid hp.put
 have hpp := Lib.hid hp
 have hvat := Lib.hid hp.vat
 have hlat := Lib.hid hp.lat
 have hkF : (i : Int) < (N : Int) := by have := hN.out; omega
 have hi4 : i ≤ 4 := by omega
 obtain ⟨u, hu, -⟩ := hA0.out.cells hp.vat
 have hrow := (hA0.out.rows i u l hu hp.lat).1
 obtain ⟨hd, he, -, hnum⟩ := ho'.out.dr i v l hp.vat hp.lat
 have hl16 : l.length ≤ 1000000 := by have := hd.hn; omega
 obtain ⟨xu, Nu, cu, rfl, -⟩ := Row.opened (show Row wr.heap.size wr u l from hrow)
 have hu' := Lib.hid hu
 have hnum' := Lib.hid hnum
 have hrE := Lib.hid (show bestE v l S.t r = 0 from hp.best)
 have hrN := Lib.hid (show (bestW v l S.t r).n = n by rw [← hp.rise, hnn.out])
 have hrC := Lib.hid (show putC v l S.t r = m by unfold putC; exact hp.row.symm)
 have hlt' := Lib.hid hlt
 have hDlt : Hid (∀ k, D k → k < w.heap.size) := Lib.hid h'.out.lt
 have hwr : w.heap.size ≤ wr.heap.size := hBr.out.size
 have hgD : Hid (∀ k, k = gt → D k) := Lib.hid (fun k e => by rw [e]; exact h'.out.sub _ h'.out.gT)
 clear hp hu hrow hd he hnum hlt hrin
 obtain ⟨z9, b0, b1, b2, z8⟩ := hcells.out wr hA0.out
 go_upto_region 5 with fail
 clear z9 b0 b1 b2 z8
 have hgtr : gt < wr.heap.size := hA0.out.gtIn
 refine Sched.wp_region_schedA 22 (fun W W' => Chg (fun k => k = gt) W W') (VC (G := fun k => k = gt) [.val (.pointer (some ⟨gt, i * 6, none⟩)), .val (.pointer (some ⟨gt, i * 6, none⟩)), .val (.pointer (some ⟨gt, i * 6, none⟩)), .val (.pointer (some ⟨gt, i * 6, none⟩)), .val (.agg #[.int .i64 v.hx, .int .i64 v.hy, .int .i64 v.cp, .int .i64 v.st, .int .i64 v.en]), .val (.pointer (some ⟨gt, i * 6, none⟩)), .val (.pointer (some ⟨gt, i * 6, none⟩)), .val (.pointer (some ⟨gt, i * 6 + 5, none⟩)), .val (.slice xu Nu cu), .val (.pointer (some ⟨p, 0, none⟩)), .val (.pointer (some ⟨p, 0, none⟩)), .val (.pointer (some ⟨p, 1, none⟩)), .val (.slice xt Nt ct), .val (.int .i64 r), .of (fun x W => ∃ y c, x = .tuple #[.slice y m.length c, .int .i64 n, .int .i64 0] ∧ RowD D W (.slice y m.length c) 2 (m.map stV)) (fun ⟨y, c, e, h⟩ hc => ⟨y, c, e, h.chg hc hgD.out⟩), .of (fun x W => ∃ y c, x = .tuple #[.slice y m.length c, .int .i64 n, .int .i64 0] ∧ RowD D W (.slice y m.length c) 2 (m.map stV)) (fun ⟨y, c, e, h⟩ hc => ⟨y, c, e, h.chg hc hgD.out⟩), .of (fun x W => (∃ y c, x = .slice y m.length c) ∧ RowD D W x 2 (m.map stV)) (fun ⟨e, h⟩ hc => ⟨e, h.chg hc hgD.out⟩), .val (.int .i64 n), .val (.int .i64 0), .val (.pointer (some ⟨gt, i * 6, none⟩)), .val (.pointer (some ⟨gt, i * 6 + 5, none⟩)), .any]) (fun done _ W => ZQ 21 16 (fun W => ProgAt D G W p gt gm (.slice xt Nt ct) cap us S ∧ Sg W) (fun W => ∃ us', MidAt D G W p gt gm (.slice xt Nt ct) cap us' S { S with rows := S.rows.set i m }) done W) rfl (by kernel_rfl) (by kernel_rfl) (by kernel_rfl) (by kernel_rfl) (fun h1 h2 => h1.trans h2) (fun h1 h2 => VC.keep h1 h2) (Chg.of_below (Below.refl _ _).drew) (fun ys => ZQ.start (⟨hA0.out.on (Below.refl _ _).drew, hsg1.out.on (Below.refl _ _).drew⟩)) (Sched.StepsA.steps (by kernel_rfl) ?hSA) ?hQA
 case hSA =>
  simp only [List.take_succ_cons, List.take_zero]
  refine ⟨?_, ?_, ?_, ?_, ?_, ?_, ?_, ?_, ?_, ?_, ?_, ?_, ?_, ?_, ?_, ?_, ?_, ?_, ?_, ?_, ?_, ?_, trivial⟩
  · intro ys done W aa hE hn hF hD hZ hG hO
    replace hE : Chg (fun k => k = gt) wr W := hE
    have o7 := hO 7 (by kernel_rfl)
    replace o7 : aa.tmps[7]? = some (.pointer (some ⟨gt, i * 6, none⟩)) := o7
    replace hZ := Lib.hid hZ
    go_wp2_with fail
    exact ⟨_, rfl, Chg.refl _ _, VC.val rfl rfl, hZ.out.light (by decide) (fun h => ⟨ProgAt.on h.1 (Below.refl _ _), Sg.on h.2 (Below.refl _ _)⟩) (fun h => (h.elim fun us2 h2 => ⟨us2, MidAt.on h2 (Below.refl _ _)⟩))⟩
  · intro ys done W aa hE hn hF hD hZ hG hO
    replace hE : Chg (fun k => k = gt) wr W := hE
    have o7 := hO 7 (by kernel_rfl)
    replace o7 : aa.tmps[7]? = some (.pointer (some ⟨gt, i * 6, none⟩)) := o7
    replace hZ := Lib.hid hZ
    go_wp2_with fail
    exact ⟨_, rfl, Chg.refl _ _, VC.val rfl rfl, hZ.out.light (by decide) (fun h => ⟨ProgAt.on h.1 (Below.refl _ _), Sg.on h.2 (Below.refl _ _)⟩) (fun h => (h.elim fun us2 h2 => ⟨us2, MidAt.on h2 (Below.refl _ _)⟩))⟩
  · intro ys done W aa hE hn hF hD hZ hG hO
    replace hE : Chg (fun k => k = gt) wr W := hE
    have v1 := (hF 1 (by decide) (hD 1 (by kernel_rfl))).eq rfl
    have g1 := hG 1 26 rfl (Nat.le_of_ble_eq_true rfl)
    rw [v1] at g1
    obtain ⟨hA, hsW⟩ := hZ.fst (by decide) hn
    obtain ⟨z9, z0, z1, z2, z8⟩ := hcells.out W hA
    replace hZ := Lib.hid hZ
    go_wp2_with fail
    exact ⟨_, rfl, Chg.refl _ _, VC.val rfl rfl, hZ.out.light (by decide) (fun h => ⟨ProgAt.on h.1 (Below.refl _ _), Sg.on h.2 (Below.refl _ _)⟩) (fun h => (h.elim fun us2 h2 => ⟨us2, MidAt.on h2 (Below.refl _ _)⟩))⟩
  · intro ys done W aa hE hn hF hD hZ hG hO
    replace hE : Chg (fun k => k = gt) wr W := hE
    have v2 := (hF 2 (by decide) (hD 2 (by kernel_rfl))).eq rfl
    have g2 := hG 2 27 rfl (Nat.le_of_ble_eq_true rfl)
    rw [v2] at g2
    obtain ⟨hA, hsW⟩ := hZ.fst (by decide) hn
    obtain ⟨z9, z0, z1, z2, z8⟩ := hcells.out W hA
    replace hZ := Lib.hid hZ
    go_wp2_with fail
    exact ⟨_, rfl, Chg.refl _ _, VC.val rfl rfl, hZ.out.light (by decide) (fun h => ⟨ProgAt.on h.1 (Below.refl _ _), Sg.on h.2 (Below.refl _ _)⟩) (fun h => (h.elim fun us2 h2 => ⟨us2, MidAt.on h2 (Below.refl _ _)⟩))⟩
  · intro ys done W aa hE hn hF hD hZ hG hO
    replace hE : Chg (fun k => k = gt) wr W := hE
    have v3 := (hF 3 (by decide) (hD 3 (by kernel_rfl))).eq rfl
    have g3 := hG 3 28 rfl (Nat.le_of_ble_eq_true rfl)
    rw [v3] at g3
    obtain ⟨hA, hsW⟩ := hZ.fst (by decide) hn
    obtain ⟨u9, hu9, y0, y1, y2, y3, y4, y5⟩ := hA.cells hvat.out
    obtain rfl := Option.some.inj (hu'.out.symm.trans hu9)
    clear hu9
    replace hZ := Lib.hid hZ
    go_wp2_with fail
    exact ⟨_, rfl, Chg.refl _ _, VC.val rfl rfl, hZ.out.light (by decide) (fun h => ⟨ProgAt.on h.1 (Below.refl _ _), Sg.on h.2 (Below.refl _ _)⟩) (fun h => (h.elim fun us2 h2 => ⟨us2, MidAt.on h2 (Below.refl _ _)⟩))⟩
  · intro ys done W aa hE hn hF hD hZ hG hO
    replace hE : Chg (fun k => k = gt) wr W := hE
    have o7 := hO 7 (by kernel_rfl)
    replace o7 : aa.tmps[7]? = some (.pointer (some ⟨gt, i * 6, none⟩)) := o7
    replace hZ := Lib.hid hZ
    go_wp2_with fail
    exact ⟨_, rfl, Chg.refl _ _, VC.val rfl rfl, hZ.out.light (by decide) (fun h => ⟨ProgAt.on h.1 (Below.refl _ _), Sg.on h.2 (Below.refl _ _)⟩) (fun h => (h.elim fun us2 h2 => ⟨us2, MidAt.on h2 (Below.refl _ _)⟩))⟩
  · intro ys done W aa hE hn hF hD hZ hG hO
    replace hE : Chg (fun k => k = gt) wr W := hE
    have v5 := (hF 5 (by decide) (hD 5 (by kernel_rfl))).eq rfl
    have g5 := hG 5 30 rfl (Nat.le_of_ble_eq_true rfl)
    rw [v5] at g5
    obtain ⟨hA, hsW⟩ := hZ.fst (by decide) hn
    obtain ⟨z9, z0, z1, z2, z8⟩ := hcells.out W hA
    replace hZ := Lib.hid hZ
    go_wp2_with fail
    exact ⟨_, rfl, Chg.refl _ _, VC.val rfl rfl, hZ.out.light (by decide) (fun h => ⟨ProgAt.on h.1 (Below.refl _ _), Sg.on h.2 (Below.refl _ _)⟩) (fun h => (h.elim fun us2 h2 => ⟨us2, MidAt.on h2 (Below.refl _ _)⟩))⟩
  · intro ys done W aa hE hn hF hD hZ hG hO
    replace hE : Chg (fun k => k = gt) wr W := hE
    have v6 := (hF 6 (by decide) (hD 6 (by kernel_rfl))).eq rfl
    have g6 := hG 6 31 rfl (Nat.le_of_ble_eq_true rfl)
    rw [v6] at g6
    obtain ⟨hA, hsW⟩ := hZ.fst (by decide) hn
    obtain ⟨z9, z0, z1, z2, z8⟩ := hcells.out W hA
    replace hZ := Lib.hid hZ
    go_wp2_with fail
    exact ⟨_, rfl, Chg.refl _ _, VC.val rfl rfl, hZ.out.light (by decide) (fun h => ⟨ProgAt.on h.1 (Below.refl _ _), Sg.on h.2 (Below.refl _ _)⟩) (fun h => (h.elim fun us2 h2 => ⟨us2, MidAt.on h2 (Below.refl _ _)⟩))⟩
  · intro ys done W aa hE hn hF hD hZ hG hO
    replace hE : Chg (fun k => k = gt) wr W := hE
    have v7 := (hF 7 (by decide) (hD 7 (by kernel_rfl))).eq rfl
    have g7 := hG 7 32 rfl (Nat.le_of_ble_eq_true rfl)
    rw [v7] at g7
    obtain ⟨hA, hsW⟩ := hZ.fst (by decide) hn
    obtain ⟨u9, hu9, y0, y1, y2, y3, y4, y5⟩ := hA.cells hvat.out
    obtain rfl := Option.some.inj (hu'.out.symm.trans hu9)
    clear hu9
    replace hZ := Lib.hid hZ
    go_wp2_with fail
    exact ⟨_, rfl, Chg.refl _ _, VC.val rfl rfl, hZ.out.light (by decide) (fun h => ⟨ProgAt.on h.1 (Below.refl _ _), Sg.on h.2 (Below.refl _ _)⟩) (fun h => (h.elim fun us2 h2 => ⟨us2, MidAt.on h2 (Below.refl _ _)⟩))⟩
  · intro ys done W aa hE hn hF hD hZ hG hO
    replace hE : Chg (fun k => k = gt) wr W := hE
    have o0 := hO 0 (by kernel_rfl)
    replace o0 : aa.tmps[0]? = some (.pointer (some ⟨p, 0, none⟩)) := o0
    replace hZ := Lib.hid hZ
    go_wp2_with fail
    exact ⟨_, rfl, Chg.refl _ _, VC.val rfl rfl, hZ.out.light (by decide) (fun h => ⟨ProgAt.on h.1 (Below.refl _ _), Sg.on h.2 (Below.refl _ _)⟩) (fun h => (h.elim fun us2 h2 => ⟨us2, MidAt.on h2 (Below.refl _ _)⟩))⟩
  · intro ys done W aa hE hn hF hD hZ hG hO
    replace hE : Chg (fun k => k = gt) wr W := hE
    have v9 := (hF 9 (by decide) (hD 9 (by kernel_rfl))).eq rfl
    have g9 := hG 9 34 rfl (Nat.le_of_ble_eq_true rfl)
    rw [v9] at g9
    obtain ⟨hA, hsW⟩ := hZ.fst (by decide) hn
    obtain ⟨z9, z0, z1, z2, z8⟩ := hcells.out W hA
    replace hZ := Lib.hid hZ
    go_wp2_with fail
    exact ⟨_, rfl, Chg.refl _ _, VC.val rfl rfl, hZ.out.light (by decide) (fun h => ⟨ProgAt.on h.1 (Below.refl _ _), Sg.on h.2 (Below.refl _ _)⟩) (fun h => (h.elim fun us2 h2 => ⟨us2, MidAt.on h2 (Below.refl _ _)⟩))⟩
  · intro ys done W aa hE hn hF hD hZ hG hO
    replace hE : Chg (fun k => k = gt) wr W := hE
    have v10 := (hF 10 (by decide) (hD 10 (by kernel_rfl))).eq rfl
    have g10 := hG 10 35 rfl (Nat.le_of_ble_eq_true rfl)
    rw [v10] at g10
    obtain ⟨hA, hsW⟩ := hZ.fst (by decide) hn
    obtain ⟨z9, z0, z1, z2, z8⟩ := hcells.out W hA
    replace hZ := Lib.hid hZ
    go_wp2_with fail
    exact ⟨_, rfl, Chg.refl _ _, VC.val rfl rfl, hZ.out.light (by decide) (fun h => ⟨ProgAt.on h.1 (Below.refl _ _), Sg.on h.2 (Below.refl _ _)⟩) (fun h => (h.elim fun us2 h2 => ⟨us2, MidAt.on h2 (Below.refl _ _)⟩))⟩
  · intro ys done W aa hE hn hF hD hZ hG hO
    replace hE : Chg (fun k => k = gt) wr W := hE
    have v11 := (hF 11 (by decide) (hD 11 (by kernel_rfl))).eq rfl
    have g11 := hG 11 36 rfl (Nat.le_of_ble_eq_true rfl)
    rw [v11] at g11
    obtain ⟨hA, hsW⟩ := hZ.fst (by decide) hn
    obtain ⟨z9, z0, z1, z2, z8⟩ := hcells.out W hA
    replace hZ := Lib.hid hZ
    go_wp2_with fail
    exact ⟨_, rfl, Chg.refl _ _, VC.val rfl rfl, hZ.out.light (by decide) (fun h => ⟨ProgAt.on h.1 (Below.refl _ _), Sg.on h.2 (Below.refl _ _)⟩) (fun h => (h.elim fun us2 h2 => ⟨us2, MidAt.on h2 (Below.refl _ _)⟩))⟩
  · intro ys done W aa hE hn hF hD hZ hG hO
    replace hE : Chg (fun k => k = gt) wr W := hE
    have o1 := hO 1 (by kernel_rfl)
    replace o1 : aa.tmps[1]? = some (.int .i64 r) := o1
    replace hZ := Lib.hid hZ
    go_wp2_with fail
    exact ⟨_, rfl, Chg.refl _ _, VC.val rfl rfl, hZ.out.light (by decide) (fun h => ⟨ProgAt.on h.1 (Below.refl _ _), Sg.on h.2 (Below.refl _ _)⟩) (fun h => (h.elim fun us2 h2 => ⟨us2, MidAt.on h2 (Below.refl _ _)⟩))⟩
  · intro ys done W aa hE hn hF hD hZ hG hO
    replace hE : Chg (fun k => k = gt) wr W := hE
    have v4 := (hF 4 (by decide) (hD 4 (by kernel_rfl))).eq rfl
    have g4 := hG 4 29 rfl (Nat.le_of_ble_eq_true rfl)
    rw [v4] at g4
    have v8 := (hF 8 (by decide) (hD 8 (by kernel_rfl))).eq rfl
    have g8 := hG 8 33 rfl (Nat.le_of_ble_eq_true rfl)
    rw [v8] at g8
    have v12 := (hF 12 (by decide) (hD 12 (by kernel_rfl))).eq rfl
    have g12 := hG 12 37 rfl (Nat.le_of_ble_eq_true rfl)
    rw [v12] at g12
    have v13 := (hF 13 (by decide) (hD 13 (by kernel_rfl))).eq rfl
    have g13 := hG 13 38 rfl (Nat.le_of_ble_eq_true rfl)
    rw [v13] at g13
    obtain ⟨hA, hsW⟩ := hZ.fst (by decide) hn
    replace hZ := Lib.hid hZ
    go_wp2_with fail
    refine (Cheap.Put_any v _ _ l S.t hl16 hnum'.out r W hsW ((hA.rows i _ l hu'.out hlat.out).1) (show Rqs W.heap.size W _ S.t from hA.t.1)).mono ?_
    rintro e W' ⟨⟨u9, rfl, hu9⟩, hb'⟩
    unfold PutOk at hu9
    rw [if_pos hrE.out, hrC.out] at hu9
    obtain ⟨y9, M9, c9, rfl, hM9, -⟩ := hu9.1.opened
    obtain rfl : M9 = m.length := hM9.out.symm
    rw [hrN.out, hrE.out]
    have hsW := hE.size
    have hr9 := Lib.hid (RowD.new (D := D) (show RowB W'.heap.size W' _ 2 (m.map stV) from hu9.1) hu9.2 (fun k hk => by have := hDlt.out k hk; omega))
    clear hu9 hM9
    replace hb' := Lib.hid hb'
    go_wp2_with fail
    exact ⟨_, rfl, Chg.of_below hb'.out, VC.of rfl ⟨_, _, rfl, hr9.out⟩, hZ.out.light (by decide) (fun h => ⟨ProgAt.on h.1 (hb'.out), Sg.on h.2 (hb'.out)⟩) (fun h => (h.elim fun us2 h2 => ⟨us2, MidAt.on h2 (hb'.out)⟩))⟩
  · intro ys done W aa hE hn hF hD hZ hG hO
    replace hE : Chg (fun k => k = gt) wr W := hE
    have v14 := (hF 14 (by decide) (hD 14 (by kernel_rfl))).get rfl
    have g14 := hG 14 39 rfl (Nat.le_of_ble_eq_true rfl)
    replace hZ := Lib.hid hZ
    go_wp2_with fail
    exact ⟨_, rfl, Chg.refl _ _, VC.of rfl v14, hZ.out.light (by decide) (fun h => ⟨ProgAt.on h.1 (Below.refl _ _), Sg.on h.2 (Below.refl _ _)⟩) (fun h => (h.elim fun us2 h2 => ⟨us2, MidAt.on h2 (Below.refl _ _)⟩))⟩
  · intro ys done W aa hE hn hF hD hZ hG hO
    replace hE : Chg (fun k => k = gt) wr W := hE
    have v15 := (hF 15 (by decide) (hD 15 (by kernel_rfl))).get rfl
    have g15 := hG 15 24 rfl (Nat.le_of_ble_eq_true rfl)
    obtain ⟨y9, c9, e9, hr9⟩ := v15
    rw [e9] at g15
    replace hr9 := Lib.hid hr9
    replace hZ := Lib.hid hZ
    go_wp2_with fail
    exact ⟨_, rfl, Chg.refl _ _, VC.of rfl ⟨⟨y9, c9, rfl⟩, hr9.out⟩, hZ.out.light (by decide) (fun h => ⟨ProgAt.on h.1 (Below.refl _ _), Sg.on h.2 (Below.refl _ _)⟩) (fun h => (h.elim fun us2 h2 => ⟨us2, MidAt.on h2 (Below.refl _ _)⟩))⟩
  · intro ys done W aa hE hn hF hD hZ hG hO
    replace hE : Chg (fun k => k = gt) wr W := hE
    have v15 := (hF 15 (by decide) (hD 15 (by kernel_rfl))).get rfl
    have g15 := hG 15 24 rfl (Nat.le_of_ble_eq_true rfl)
    obtain ⟨y9, c9, e9, hr9⟩ := v15
    rw [e9] at g15
    replace hr9 := Lib.hid hr9
    replace hZ := Lib.hid hZ
    go_wp2_with fail
    exact ⟨_, rfl, Chg.refl _ _, VC.val rfl rfl, hZ.out.light (by decide) (fun h => ⟨ProgAt.on h.1 (Below.refl _ _), Sg.on h.2 (Below.refl _ _)⟩) (fun h => (h.elim fun us2 h2 => ⟨us2, MidAt.on h2 (Below.refl _ _)⟩))⟩
  · intro ys done W aa hE hn hF hD hZ hG hO
    replace hE : Chg (fun k => k = gt) wr W := hE
    have v15 := (hF 15 (by decide) (hD 15 (by kernel_rfl))).get rfl
    have g15 := hG 15 24 rfl (Nat.le_of_ble_eq_true rfl)
    obtain ⟨y9, c9, e9, hr9⟩ := v15
    rw [e9] at g15
    replace hr9 := Lib.hid hr9
    replace hZ := Lib.hid hZ
    go_wp2_with fail
    exact ⟨_, rfl, Chg.refl _ _, VC.val rfl rfl, hZ.out.light (by decide) (fun h => ⟨ProgAt.on h.1 (Below.refl _ _), Sg.on h.2 (Below.refl _ _)⟩) (fun h => (h.elim fun us2 h2 => ⟨us2, MidAt.on h2 (Below.refl _ _)⟩))⟩
  · intro ys done W aa hE hn hF hD hZ hG hO
    replace hE : Chg (fun k => k = gt) wr W := hE
    have v0 := (hF 0 (by decide) (hD 0 (by kernel_rfl))).eq rfl
    have g0 := hG 0 25 rfl (Nat.le_of_ble_eq_true rfl)
    rw [v0] at g0
    have z8 : gt < W.heap.size := Nat.lt_of_lt_of_le hgtr hE.size
    replace hZ := Lib.hid hZ
    go_wp2_with fail
    exact ⟨_, rfl, Chg.refl _ _, VC.val rfl rfl, hZ.out.light (by decide) (fun h => ⟨ProgAt.on h.1 (Below.refl _ _), Sg.on h.2 (Below.refl _ _)⟩) (fun h => (h.elim fun us2 h2 => ⟨us2, MidAt.on h2 (Below.refl _ _)⟩))⟩
  · intro ys done W aa hE hn hF hD hZ hG hO
    replace hE : Chg (fun k => k = gt) wr W := hE
    have v19 := (hF 19 (by decide) (hD 19 (by kernel_rfl))).eq rfl
    have g19 := hG 19 43 rfl (Nat.le_of_ble_eq_true rfl)
    rw [v19] at g19
    have z8 : gt < W.heap.size := Nat.lt_of_lt_of_le hgtr hE.size
    replace hZ := Lib.hid hZ
    go_wp2_with fail
    exact ⟨_, rfl, Chg.refl _ _, VC.val rfl rfl, hZ.out.light (by decide) (fun h => ⟨ProgAt.on h.1 (Below.refl _ _), Sg.on h.2 (Below.refl _ _)⟩) (fun h => (h.elim fun us2 h2 => ⟨us2, MidAt.on h2 (Below.refl _ _)⟩))⟩
  · intro ys done W aa hE hn hF hD hZ hG hO
    replace hE : Chg (fun k => k = gt) wr W := hE
    have v20 := (hF 20 (by decide) (hD 20 (by kernel_rfl))).eq rfl
    have g20 := hG 20 44 rfl (Nat.le_of_ble_eq_true rfl)
    rw [v20] at g20
    have v16 := (hF 16 (by decide) (hD 16 (by kernel_rfl))).get rfl
    have g16 := hG 16 40 rfl (Nat.le_of_ble_eq_true rfl)
    obtain ⟨hA, hsW⟩ := hZ.a hn
    replace hD := Lib.hid (show ∀ i, i < 16 → done i = true by intro i hi; rcases (by omega : i = 0 ∨ i = 1 ∨ i = 2 ∨ i = 3 ∨ i = 4 ∨ i = 5 ∨ i = 6 ∨ i = 7 ∨ i = 8 ∨ i = 9 ∨ i = 10 ∨ i = 11 ∨ i = 12 ∨ i = 13 ∨ i = 14 ∨ i = 15) with rfl | rfl | rfl | rfl | rfl | rfl | rfl | rfl | rfl | rfl | rfl | rfl | rfl | rfl | rfl | rfl; all_goals exact hD _ (by kernel_rfl))
    obtain ⟨⟨y9, c9, e9⟩, hr9⟩ := v16
    rw [e9] at g16 hr9
    have hfz := hA.own.frozenAt (i * 6 + 5)
    obtain ⟨u9, hu9, y0, y1, y2, y3, y4, y5⟩ := hA.cells hvat.out
    clear hu9
    have hgi := hA.gtIn
    have hfin := Lib.hid (hA.mid hlt'.out hr9 ho'.out.len)
    clear hA hZ hr9 e9 hsW
    go_wp2_with fail
    exact ⟨Chg.set (D := fun k => k = gt) W (g := gt) rfl (i * 6 + 5) _, ⟨undef, VC.any rfl⟩, ZQ.put (by decide) hD.out ⟨_, hfin.out⟩⟩
 case hQA =>
  intro ys w6 hE hF hZ
  replace hE : Chg (fun k => k = gt) wr w6 := hE
  obtain ⟨done, hdn, hZ⟩ := hZ
  have hP1 := hZ.b (hdn 21 (by decide))
  simp only [List.take_succ_cons, List.take_zero, List.drop_succ_cons, List.drop_zero, Sched.fill]
  clear hF hZ hdn 
  go_simp
  obtain ⟨us9, hP9⟩ := hP1
  have hP9' := Lib.hid hP9
  have hch := Lib.hid hE
  have c2 := hP9.box.cell 2
  simp at c2
  have hp6 := hP9.box.inside
  have hkey := key_lit hrI
  obtain ⟨D9, hom, hD9⟩ := hP9.map
  have hDD := Lib.hid hD9
  have hgmi := hP9.map.inside
  clear hP9 hE hD9
  go_wp2_with (at_mapUpdate; refine wpList_mapUpdate_own _ rfl _ _ _ 76 rfl 3 3 (Maps.int_keyed Tryz.underlying3) Tryz.underlying76 _ gm 1000 D9 rfl hom (by unfold maxLen; omega) _ _ _ rfl rfl hkey _ [] (plainElem_int Tryz.underlying3 (show (Lit.int .i64 (i : Int)).wf = true from I64.wf ⟨by omega, by omega⟩)) ?_; intro w8 hom8 hgrow8)
  have hm8 : MapAt w8 gm 1001 (whO (putS S r)) := MapAt.funs ⟨_, hom8, put_tells hom.isMap hDD.out trivial⟩ (fun q => whO_put hpp.out hwn.out q)
  have hfin := Lib.hid (hP9'.out.done (by rw [← hput.out]; exact put_ok ho'.out r) hgrow8 (by rw [← hput.out]; exact hm8))
  have hC8 : Hid (Chg G w w8) := Lib.hid (by
   have h1 : Chg G w wr := Chg.of_below hBr.out
   have h2 : Chg G wr w6 := hch.out.mono (fun k e => by rw [e]; exact h'.out.gT)
   have h3 : Chg G w6 w8 := Chg.of_grown hgrow8 (fun r e => by cases e; exact h'.out.gM)
   exact h1.trans (h2.trans h3))
  clear hom8 hgrow8 hm8 hom
  go_wp2
  refine bodyPost_ret (v := .tuple #[.int .i64 n, .int .i64 0]) (by simp [results, Tryz.results20, go_sem]) rfl ?_
  exact ⟨ret_put2 rfl rfl, ⟨D, G, by rw [hput.out]; exact ⟨_, _, _, _, _, hfin.out⟩, Grew.same h'.out.lt hC8.out.size, fun k hk => .inl hk⟩, hC8.out⟩
end Go.Proofs.YteclpblfleakhaaGreatDoor.Plan
namespace Go.Proofs.YteclpblfleakhaaGreatDoor.Plan
open Go.RowKit Go.Proofs.YteclpblfleakhaaGreatDoor.Mem Go.Proofs.YteclpblfleakhaaGreatDoor.Route
set_option linter.unusedVariables false
set_option maxRecDepth 100000 in
set_option maxHeartbeats 1000000 in
theorem kept_own (v : Value) (l : List (Int × Int)) (c : Nat) (r : Int) (hl : l.length ≤ 1000000) (w : World) (h : Row w.heap.size w v l) (hc : w.cell? ⟨c, 0, none⟩ = some (.int .i64 r)) (hin : c < w.heap.size) :
 Calls Tryz.prog 35 #[v, .func (.func 36) #[] #[.pointer (some ⟨c, 0, none⟩)]] w fun e w' => (∃ v', e = .returned v' ∧ w'.ownsRow w.heap.size 82 2 v' (woL r l).length (flatS (woL r l))) ∧ Below w.heap.size w w' := by
 obtain ⟨i0, hi, hz0, hz1, hz2⟩ := info_parts info_stop
 obtain ⟨x, N, cap, rfl, hN', h0', hc1, hc2⟩ := h.opened
 have h' := Lib.hid h
 rw [hN'.out] at hl
 clear h
 have hkin := kept_in
 go_enter Tryz.func35, Tryz.ntmps35
 go_wp2
 go_loopw [5, 10] (fun u i wr => ∃ k : Nat, k ≤ N ∧ i = .int .i64 k ∧ wr.ownsRow w.heap.size 82 2 u (woL r (l.take k)).length (flatS (woL r (l.take k))) ∧ Below w.heap.size w wr)
  (fun _ i _ => N - (intOf i).toNat)
 case atStart => exact ⟨0, by omega, rfl, by simpa [woL, flatS] using World.ownsRow_nil _ _ _ _, Below.refl _ _⟩
 case round =>
  obtain ⟨k, hk, rfl, hown, hbw⟩ := hrel
  by_cases hlt : k < N
  · obtain ⟨⟨s1, s2⟩, hs, _⟩ := drop_get (l := l) (k := k) (by rw [hN'.out]; exact hlt)
    obtain ⟨g, o, rfl, hg, e1, e2⟩ := Row.stop h'.out hs
    have e1 := (hbw.cell (p := ⟨g, o + k * 2, none⟩) hg).trans e1
    have e2 := (hbw.cell (p := ⟨g, o + k * 2 + 1, none⟩) hg).trans e2
    have hcr := (hbw.cell (p := ⟨c, 0, none⟩) hin).trans hc
    simp at e1 e2
    have hyes := Lib.hid (wo_succ_yes (r := r) hs)
    have hno := Lib.hid (wo_succ_no (r := r) hs)
    have hln := wo_take_le r l k
    clear hs
    generalize woL r (l.take k) = L at *
    have hS := At.new wr 82 #[.int .i64 s1, .int .i64 s2]
    have hb1 := hbw.alloc hbw.size (.cells #[.int .i64 s1, .int .i64 s2] 82)
    have ho1 := hown.alloc (.cells #[.int .i64 s1, .int .i64 s2] 82)
    have hsz := hbw.size
    go_wp2_with fail
    generalize (wr.alloc (.cells #[.int .i64 s1, .int .i64 s2] 82)) = w1 at *
    generalize wr.heap.size = q at *
    have hsz1 := hb1.size
    refine (keep_any c s1 s2 r w1 ((hb1.cell (p := ⟨c, 0, none⟩) hin).trans hc) (by omega)).mono ?_
    rintro e w2 ⟨rfl, hb2⟩
    have hB2 := hb1.trans (hb2.mono hsz1)
    have ho2 := owns_below ho1 hb2
    have hS2 := hS.keep hb2 hS.inside
    have hsz2 := hB2.size
    have a0 := hS2.cell 0
    have a1 := hS2.cell 1
    simp at a0 a1
    clear hb2 hb1 ho1 hS hown hbw e1 e2 hcr
    cases h1 : (s1 == r)
    · have hy := Lib.hid (hyes.out (by simpa using h1))
      clear hyes hno
      go_wp2_with (at_builtin; refine wpList_append_own _ rfl _ _ 28 rfl w.heap.size 82 i0 (.agg #[.int .i64 0, .int .i64 0]) 2 16 Tryz.underlying28 hi hz0 hz1 hz2 rfl (by decide) _ _ _ rfl (ho2.alloc _) ⟨w2.heap.size, 0, none⟩ 1 1 [.int .i64 s1, .int .i64 s2] rfl rfl (World.news_of_block (cs := #[.int .i64 s1, .int .i64 s2]) (t := 82) (fr := (0, 0)) (heap_alloc_new w2 _)) (by simp [Value.oneCell']) (by unfold maxLen; omega) (by omega) (by simp; omega) ?_; intro v7 w7 hown7 hgrow7 hnil7)
      have hb7 : Below w.heap.size w w7 := (hB2.alloc hB2.size _).grown hgrow7 (by simp; omega) (owns_row ho2)
      go_roundw
      case rel => exact ⟨k + 1, by omega, by go_num, by rw [hy.out, flatS_snoc, List.length_append]; exact hown7, hb7⟩
      case measure => simp [intOf]; omega
    · have hy := Lib.hid (hno.out (by simpa using h1))
      clear hyes hno
      go_wp2
      go_roundw
      case rel => exact ⟨k + 1, by omega, by go_num, by rw [hy.out]; exact ho2, hB2⟩
      case measure => simp [intOf]; omega
  · obtain rfl : k = N := by omega
    have he : l.take k = l := by rw [← hN'.out, List.take_length]
    rw [he] at hown
    clear he
    have hr := Lib.hid hown
    clear hown
    go_wp2
    go_ret
    exact ⟨⟨_, rfl, hr.out⟩, hbw⟩
theorem Without_own (v : Value) (l : List (Int × Int)) (r : Int) (hl : l.length ≤ 1000000) (w : World) (h : Row w.heap.size w v l) :
 Calls Tryz.prog 22 #[v, .int .i64 r] w fun e w' => (∃ v', e = .returned v' ∧ w'.ownsRow w.heap.size 82 2 v' (woL r l).length (flatS (woL r l))) ∧ Below w.heap.size w w' := by
 have hb0 : Below w.heap.size w (w.alloc (.cells #[.int .i64 r] 3)) := (Below.refl _ _).alloc (Nat.le_refl _) _
 have hA := At.new w 3 #[.int .i64 r]
 have hr := h.on hb0
 obtain ⟨x, N, cap, rfl, hN', h0', hc1, hc2⟩ := h.opened
 clear h
 go_enter Tryz.func22, Tryz.ntmps22
 go_wp2_with fail
 refine (kept_own _ l w.heap.size r hl _ hr (by simp) hA.inside).mono ?_
 rintro e w1 ⟨⟨v1, rfl, hr1⟩, hb1⟩
 go_wp2
 go_ret
 exact ⟨⟨_, rfl, owns_more hr1 hb0.size⟩, hb0.trans (hb1.mono hb0.size)⟩
end Go.Proofs.YteclpblfleakhaaGreatDoor.Plan
namespace Go.Proofs.YteclpblfleakhaaGreatDoor.Plan
open Go.RowKit Go.Sort Go.Proofs.YteclpblfleakhaaGreatDoor.Mem Go.Proofs.YteclpblfleakhaaGreatDoor.Route Go.Proofs.YteclpblfleakhaaGreatDoor.When Go.Proofs.YteclpblfleakhaaGreatDoor.Load Go.Proofs.YteclpblfleakhaaGreatDoor.Ins Go.Proofs.YteclpblfleakhaaGreatDoor.Cheap Go.Proofs.YteclpblfleakhaaGreatDoor.Feas
set_option linter.unusedVariables false
set_option maxRecDepth 100000 in
set_option maxHeartbeats 8000000 in
theorem Take_any {D G : Nat → Prop} {p : Nat} {S : St} (r : Int) (w : World) (h : PlanAt D G w p S) (ho : Ok S) (hr : I64 r := by (first | assumption | (unfold I64; omega))) :
 Calls Tryz.prog 9 #[.pointer (some ⟨p, 0, none⟩), .int .i64 r] w fun e w' => e = .returned (.int .i64 (takeE S r)) ∧ (∃ D' G', PlanAt D' G' w' p (takeS S r) ∧ Grew D D' w w' ∧ ∀ k, G' k → G k ∨ w.heap.size ≤ k) ∧ Chg G w w' := by
 have hHas := Has_same r w h hr
 have h9 := Lib.hid h
 have ho' := Lib.hid ho
 by_cases hw : 0 ≤ whereV S.rows r
 case neg =>
  have he := Lib.hid (show takeE S r = 12 by unfold takeE; rw [if_pos (by omega)])
  have hs := Lib.hid (takeS_no (S := S) (r := r) (by omega))
  rw [show decide (0 ≤ whereV S.rows r) = false by simp; omega] at hHas
  clear h hw
  go_enter Tryz.func9, Tryz.ntmps9
  go_wp2_with fail
  refine hHas.mono ?_
  rintro e w2 ⟨rfl, rfl⟩
  clear hHas
  go_wp2
  go_ret
  exact ⟨Route.ret_int he.out.symm, ⟨D, G, by rw [hs.out]; exact h9.out, Grew.same h9.out.lt (Nat.le_refl _), fun k hk => .inl hk⟩, Chg.refl _ _⟩
 case pos =>
  rw [show decide (0 ≤ whereV S.rows r) = true by simp [hw]] at hHas
  obtain ⟨gt, gm, vt, cap, us, h⟩ := h
  obtain ⟨hc1, hc2⟩ := h.bd
  unfold maxLen at hc2
  obtain ⟨N, hN0⟩ : ∃ N, S.vs.length = N := ⟨_, rfl⟩
  have hN4 : N ≤ 4 := by rw [← hN0]; exact ho.cnt.2
  obtain ⟨i, v, l, hp⟩ := take_at ho hw
  have hlt : i < S.vs.length := (List.getElem?_eq_some_iff.1 hp.vat).1
  have hkF : (i : Int) < (N : Int) := by omega
  have hi4 : i ≤ 4 := by omega
  have hz0 : (0 : Int) ≤ (i : Int) := by omega
  obtain ⟨u, hu, q0, q1, q2, q3, q4, q5⟩ := h.cells hp.vat
  have hrow := (h.rows i u l hu hp.lat).1
  obtain ⟨hd, -, -, -⟩ := ho.dr i v l hp.vat hp.lat
  have hl16 : l.length ≤ 1000000 := by have := hd.hn; omega
  obtain ⟨xu, Nu, cu, rfl, -⟩ := Row.opened (show Row w.heap.size w u l from hrow)
  have b0 := h.box.cell 0
  have b2 := h.box.cell 2
  rw [hN0] at b0
  simp at b0 b2
  have hp9 := h.box.inside
  have hgt := h.gtIn
  have hkey := key_lit hr
  obtain ⟨Dm, hown, hD⟩ := h.map
  have hcD : Dm.atKey (.int .i64 r) (.lit (.int .i64 0)) = .lit (.int .i64 (i : Int)) := by rw [(hD r).2, whO_some hw, hp.idx]; rfl
  have klook : ∀ n, (Instr.lookup 76 (.map (some gm)) (.int .i64 r) false).run Tryz.prog (w.drewN n) = .ok (.int .i64 (i : Int)) (w.drewN n) := by
   intro n
   have hown2 : (w.drewN n).ownsMap Tryz.prog 3 (plainElem Tryz.prog 3) gm _ Dm := hown
   obtain ⟨c2, hr2, ha2, _⟩ := hown2.lookup_int (t := 76) (Maps.int_keyed Tryz.underlying3) Tryz.underlying76 Tryz.underlying3 (Tryz.zeroValue3 _) hkey
   have : c2 = i := lit_inj (ha2.symm.trans hcD)
   rw [hr2, this]
  have hE9 := Lib.hid (show takeE S r = 0 by unfold takeE; rw [if_neg (by omega)])
  have h' := Lib.hid h
  have hu' := Lib.hid hu
  have hpp := Lib.hid hp
  have hN := Lib.hid hN0
  have hrow' := Lib.hid hrow
  have hlt' := Lib.hid hlt
  clear h ho hu hrow hd hp hN0 hlt hown hD hcD hw
  go_enter Tryz.func9, Tryz.ntmps9
  go_wp2_with fail
  refine hHas.mono ?_
  rintro e w2 ⟨rfl, rfl⟩
  clear hHas
  go_upto_region 5 with fail
  go_quiet (fail)
  have hbq := Load.below_drewN (Below.refl w2.heap.size w2) nq
  obtain ⟨w1, hw1⟩ : ∃ w1, w2.drewN nq = w1 := ⟨_, rfl⟩
  rw [hw1] at hbq ⊢
  have hA1 := Lib.hid (h'.out.on hbq)
  have hB1 := Lib.hid hbq
  have hWo := Without_own _ l r hl16 w1 (Row.on (show Row w2.heap.size w2 _ l from hrow'.out) hbq)
  clear klook q0 q1 q2 q3 q4 q5 b0 b2 hw1 hbq hp9 hgt
  obtain ⟨u9, hu9, -, -, -, -, -, q5⟩ := hA1.out.cells hpp.out.vat
  obtain rfl := Option.some.inj (hu'.out.symm.trans hu9)
  have hgt1 := hA1.out.gtIn
  clear hu9
  go_wp2_with fail
  refine hWo.mono ?_
  clear hWo q5
  rintro e w3 ⟨⟨v3, rfl, hv3⟩, hb3⟩
  obtain ⟨y3, c3, rfl, -, -⟩ := owns_slice hv3
  have hA3 := hA1.out.on hb3
  have hB3 := Lib.hid (hB1.out.trans (hb3.mono hB1.out.size))
  have hr3 := Lib.hid (RowD.new (D := D) (Row.of_owns (B := w3.heap.size) hv3 rfl (Nat.le_refl _)) (World.ownsRow.lt hv3 |> fun h k e => (h k e).1) (fun k hk => Nat.lt_of_lt_of_le (h'.out.lt k hk) hB1.out.size))
  have hfz := hA3.own.frozenAt (i * 6 + 5)
  obtain ⟨u9, hu9, -, -, -, -, -, q5⟩ := hA3.cells hpp.out.vat
  have hgt3 := hA3.gtIn
  have hM := Lib.hid (hA3.mid hlt'.out hr3.out ho'.out.len)
  clear hu9 hA3 hv3 hb3 hgt1
  go_upto_region 7 with fail
  obtain ⟨w4, hw4⟩ : ∃ w4, w3.setCell ⟨gt, i * 6 + 5, none⟩ (.slice y3 (woL r l).length c3) = w4 := ⟨_, rfl⟩
  have hC4 : Hid (Chg G w3 w4) := Lib.hid (by rw [← hw4]; exact Chg.set (D := G) w3 (g := gt) h'.out.gT (i * 6 + 5) _)
  rw [hw4] at hM ⊢
  have c2 := hM.out.box.cell 2
  simp at c2
  have hp4 := hM.out.box.inside
  obtain ⟨D9, hom, hD9⟩ := hM.out.map
  have hDD := Lib.hid hD9
  clear hw4 hfz q5 hgt3 hD9
  go_wp2_with (at_delete; refine wpList_delete_own _ rfl _ _ 76 3 rfl 3 (Maps.int_keyed Tryz.underlying3) Tryz.underlying76 (plainElem Tryz.prog 3) gm 1000 D9 rfl hom _ _ rfl hkey ?_; intro w8 hom8 hturn8)
  have hgrow8 := hturn8.grown
  have hm8 : MapAt w8 gm 1000 (whO (takeS S r)) := MapAt.funs ⟨_, hom8, del_tells hDD.out⟩ (fun q => whO_take ho'.out hpp.out q)
  have hfin := Lib.hid (hM.out.done (by rw [← hpp.out.take]; exact take_ok ho'.out r) hgrow8 (by rw [← hpp.out.take]; exact hm8))
  have hC8 : Hid (Chg G w2 w8) := Lib.hid (by
   have h1 : Chg G w2 w3 := Chg.of_below hB3.out
   have h3 : Chg G w4 w8 := Chg.of_grown hgrow8 (fun r e => by cases e; exact h'.out.gM)
   exact h1.trans (hC4.out.trans h3))
  clear hom8 hgrow8 hm8 hom hturn8
  go_wp2
  go_ret
  exact ⟨Route.ret_int hE9.out.symm, ⟨D, G, by rw [hpp.out.take]; exact ⟨_, _, _, _, _, hfin.out⟩, Grew.same h'.out.lt hC8.out.size, fun k hk => .inl hk⟩, hC8.out⟩
end Go.Proofs.YteclpblfleakhaaGreatDoor.Plan

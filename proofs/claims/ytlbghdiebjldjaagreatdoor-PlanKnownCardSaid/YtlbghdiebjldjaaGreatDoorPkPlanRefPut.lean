import Derived.Test.YtlbghdiebjldjaaGreatDoorPkPlanRefPrice

namespace Go.Proofs.YtlbghdiebjldjaaGreatDoor.Plan
open Go.RowKit Go.Sort Go.Proofs.YtlbghdiebjldjaaGreatDoor.Mem Go.Proofs.YtlbghdiebjldjaaGreatDoor.Route Go.Proofs.YtlbghdiebjldjaaGreatDoor.When Go.Proofs.YtlbghdiebjldjaaGreatDoor.Load Go.Proofs.YtlbghdiebjldjaaGreatDoor.Ins Go.Proofs.YtlbghdiebjldjaaGreatDoor.Cheap Go.Proofs.YtlbghdiebjldjaaGreatDoor.Feas
set_option linter.unusedVariables false
theorem ret_put2 {a b c d : Int} (h : a = b) (h2 : c = d) : Ending.returned (.tuple #[.int .i64 a, .int .i64 c]) = .returned (.tuple #[.int .i64 b, .int .i64 d]) := by rw [h, h2]
set_option maxRecDepth 100000 in
set_option maxHeartbeats 8000000 in
theorem refPut_in {D : Nat → Prop} {lo : Nat} {p gr : Nat} {vf vt : Value} {cap : Nat} {us : List Value} {S : St} (r : Int) (w : World) (h : RefAt D lo w p gr vf vt cap us S) (ho : Ok S) :
 Calls Tryz.prog 42 #[.pointer (some ⟨p, 0, none⟩), .int .i64 r] w fun e w' =>
  e = .returned (.tuple #[.int .i64 (priceN S r), .int .i64 (priceE S r)]) ∧ (∃ us', RefAt D lo w' p gr vf vt cap us' (putS S r)) ∧ Chg (fun k => k = gr) w w' := by
 obtain ⟨xt, Nt, ct, rfl, hNt0, htc1, htc2, -⟩ := Rqs.opened (show Rqs w.heap.size w vt S.t from h.t.1)
 obtain ⟨xf, Nf, cf, rfl, hNf0, hfc1, hfc2, -⟩ := Vhs.opened (show Vhs w.heap.size w vf S.vs from h.vs.1)
 obtain ⟨hc1, hc2⟩ := h.bd
 have hN0 : S.rows.length = Nf := by rw [ho.len]; exact hNf0
 unfold maxLen at htc2 hfc2 hc2
 have hNf4 : Nf ≤ 4 := by rw [← hNf0]; exact ho.cnt.2
 have hPr := refPrice_any r w h ho
 have hcells : Hid (∀ W, RefAt D lo W p gr (.slice xf Nf cf) (.slice xt Nt ct) cap us S → p < W.heap.size ∧ W.cell? ⟨p, 0, none⟩ = some (.slice xf Nf cf) ∧ W.cell? ⟨p, 1, none⟩ = some (.slice xt Nt ct) ∧ W.cell? ⟨p, 2, none⟩ = some (.slice (some ⟨gr, 0, none⟩) Nf cap)) := Lib.hid (fun W hW => by
  have c0 := hW.box.cell 0
  have c1 := hW.box.cell 1
  have c2 := hW.box.cell 2
  rw [hN0] at c2
  exact ⟨hW.box.inside, by simpa using c0, by simpa using c1, by simpa using c2⟩)
 have h' := Lib.hid h
 have ho' := Lib.hid ho
 have hNf := Lib.hid hNf0
 have hN := Lib.hid hN0
 obtain ⟨E, hE0⟩ : ∃ E, priceE S r = E := ⟨_, rfl⟩
 obtain ⟨I, hI0⟩ : ∃ I, priceI S r = I := ⟨_, rfl⟩
 obtain ⟨n, hn0⟩ : ∃ n, priceN S r = n := ⟨_, rfl⟩
 rw [hE0, hI0, hn0] at hPr
 rw [hE0, hn0]
 have hEE := Lib.hid hE0
 have hII := Lib.hid hI0
 have hnn := Lib.hid hn0
 rw [hN0] at hc1
 clear h ho hNt0 hNf0 hN0 hE0 hI0 hn0
 go_enter Tryz.func42, Tryz.ntmps42
 go_wp2_with fail
 refine hPr.mono ?_
 clear hPr
 rintro e wr ⟨rfl, hbr⟩
 have hA0 := Lib.hid (h'.out.on hbr)
 have hC0 := Lib.hid (Chg.of_below (D := fun k => k = gr) hbr)
 clear hbr
 cases hE0 : (E == 0)
 · have hE1 : (E != 0) = true := by simpa using hE0
   have hno := Lib.hid (putS_no (S := S) (r := r) (by rw [hEE.out]; simpa using hE0))
   have hz := Lib.hid (price_no (S := S) (r := r) (by rw [hEE.out]; simpa using hE0))
   go_wp2
   refine bodyPost_ret (v := .tuple #[.int .i64 0, .int .i64 E]) (by simp [results, Tryz.results42, go_sem]) rfl ?_
   exact ⟨ret_put2 (by rw [← hnn.out, hz.out.2]) rfl, ⟨us, by rw [hno.out]; exact hA0.out⟩, hC0.out⟩
 have hE1 : (E != 0) = false := by simpa using hE0
 obtain rfl : E = 0 := by simpa using hE0
 obtain ⟨i, v, l, m, hp⟩ := put_at ho'.out hEE.out
 obtain rfl : I = i := by rw [← hII.out]; exact hp.idx
 have hlt : i < S.rows.length := (List.getElem?_eq_some_iff.1 hp.lat).1
 have hput := Lib.hid hp.put
 have hvat := Lib.hid hp.vat
 have hlat := Lib.hid hp.lat
 have hkF : (i : Int) < (Nf : Int) := by have := hN.out; omega
 obtain ⟨gv, ov, rfl, -⟩ := Vhs.at (show Vhs wr.heap.size wr (.slice xf Nf cf) S.vs from hA0.out.vs.1) hp.vat
 obtain ⟨u, hu, -, hrow⟩ := hA0.out.at_ hp.lat
 obtain ⟨hd, he, -, hnum⟩ := ho'.out.dr i v l hp.vat hp.lat
 have hl16 : l.length ≤ 1000000 := by have := hd.hn; omega
 obtain ⟨xu, Nu, cu, rfl, -⟩ := hrow.opened
 have hu' := Lib.hid hu
 have hnum' := Lib.hid hnum
 obtain ⟨e1, e2⟩ := best_same hd he r
 have hrE := Lib.hid (show rbestE v l S.t r = 0 from e1.trans hp.best)
 have hrN := Lib.hid (show (rbestW v l S.t r).n = n by rw [e2, ← hp.rise, hnn.out])
 have hrC := Lib.hid (show rputC v l S.t r = m by unfold rputC; rw [e2]; exact hp.row.symm)
 have hlt' := Lib.hid hlt
 have hDlt : Hid (∀ k, D k → k < w.heap.size) := Lib.hid h'.out.lt
 have hwr : w.heap.size ≤ wr.heap.size := hC0.out.size
 have hgD : Hid (∀ k, k = gr → D k) := Lib.hid (fun k e => by rw [e]; exact h'.out.gd)
 clear hp hu hrow hd he hnum e1 e2 hlt
 go_upto_region 4 with fail
 refine Sched.wp_region_schedA 31 (fun W W' => Chg (fun k => k = gr) W W') (VC (G := fun k => k = gr) [.val (.pointer (some ⟨p, 0, none⟩)), .val (.pointer (some ⟨p, 0, none⟩)), .val (.pointer (some ⟨p, 2, none⟩)), .val (.slice (some ⟨gr, 0, none⟩) Nf cap), .val (.int .i64 i), .val (.pointer (some ⟨p, 0, none⟩)), .val (.pointer (some ⟨p, 0, none⟩)), .val (.pointer (some ⟨p, 0, none⟩)), .val (.slice (some ⟨gv, ov, none⟩) Nf cf), .val (.int .i64 i), .val (.pointer (some ⟨gv, ov + i * 5, none⟩)), .val (.agg #[.int .i64 v.hx, .int .i64 v.hy, .int .i64 v.cp, .int .i64 v.st, .int .i64 v.en]), .val (.pointer (some ⟨p, 0, none⟩)), .val (.pointer (some ⟨p, 0, none⟩)), .val (.pointer (some ⟨p, 2, none⟩)), .val (.slice (some ⟨gr, 0, none⟩) Nf cap), .val (.int .i64 i), .val (.pointer (some ⟨gr, i, none⟩)), .val (.slice xu Nu cu), .val (.pointer (some ⟨p, 0, none⟩)), .val (.pointer (some ⟨p, 0, none⟩)), .val (.pointer (some ⟨p, 1, none⟩)), .val (.slice xt Nt ct), .val (.int .i64 r), .of (fun x W => ∃ y c, x = .tuple #[.slice y m.length c, .int .i64 n, .int .i64 0] ∧ RowD D W (.slice y m.length c) 2 (m.map stV)) (fun ⟨y, c, e, h⟩ hc => ⟨y, c, e, h.chg hc hgD.out⟩), .of (fun x W => ∃ y c, x = .tuple #[.slice y m.length c, .int .i64 n, .int .i64 0] ∧ RowD D W (.slice y m.length c) 2 (m.map stV)) (fun ⟨y, c, e, h⟩ hc => ⟨y, c, e, h.chg hc hgD.out⟩), .of (fun x W => (∃ y c, x = .slice y m.length c) ∧ RowD D W x 2 (m.map stV)) (fun ⟨e, h⟩ hc => ⟨e, h.chg hc hgD.out⟩), .val (.int .i64 n), .val (.int .i64 0), .val (.pointer (some ⟨gr, i, none⟩)), .any]) (fun done _ W => ZQ 30 27 (fun W => RefAt D lo W p gr (.slice (some ⟨gv, ov, none⟩) Nf cf) (.slice xt Nt ct) cap us S) (fun W => ∃ us', RefAt D lo W p gr (.slice (some ⟨gv, ov, none⟩) Nf cf) (.slice xt Nt ct) cap us' { S with rows := S.rows.set i m }) done W) rfl (by kernel_rfl) (by kernel_rfl) (by kernel_rfl) (by kernel_rfl) (fun h1 h2 => h1.trans h2) (fun h1 h2 => VC.keep h1 h2) (Chg.of_below (Below.refl _ _).drew) (fun ys => ZQ.start (hA0.out.on (Below.refl _ _).drew)) (Sched.StepsA.steps (by kernel_rfl) ?hSA) ?hQA
 case hSA =>
  simp only [List.take_succ_cons, List.take_zero]
  refine ⟨?_, ?_, ?_, ?_, ?_, ?_, ?_, ?_, ?_, ?_, ?_, ?_, ?_, ?_, ?_, ?_, ?_, ?_, ?_, ?_, ?_, ?_, ?_, ?_, ?_, ?_, ?_, ?_, ?_, ?_, ?_, trivial⟩
  · intro ys done W aa hE hn hF hD hZ hG hO
    replace hE : Chg (fun k => k = gr) wr W := hE
    have o0 := hO 0 (by kernel_rfl)
    replace o0 : aa.tmps[0]? = some (.pointer (some ⟨p, 0, none⟩)) := o0
    replace hZ := Lib.hid hZ
    go_wp2_with fail
    exact ⟨_, rfl, Chg.refl _ _, VC.val rfl rfl, hZ.out.light (by decide) (fun h => RefAt.on h (Below.refl _ _)) (fun h => (h.elim fun us2 h2 => ⟨us2, RefAt.on h2 (Below.refl _ _)⟩))⟩
  · intro ys done W aa hE hn hF hD hZ hG hO
    replace hE : Chg (fun k => k = gr) wr W := hE
    have v0 := (hF 0 (by decide) (hD 0 (by kernel_rfl))).eq rfl
    have g0 := hG 0 20 rfl (Nat.le_of_ble_eq_true rfl)
    rw [v0] at g0
    have hA := hZ.fst (by decide) hn
    obtain ⟨z9, -⟩ := hcells.out W hA
    replace hZ := Lib.hid hZ
    go_wp2_with fail
    exact ⟨_, rfl, Chg.refl _ _, VC.val rfl rfl, hZ.out.light (by decide) (fun h => RefAt.on h (Below.refl _ _)) (fun h => (h.elim fun us2 h2 => ⟨us2, RefAt.on h2 (Below.refl _ _)⟩))⟩
  · intro ys done W aa hE hn hF hD hZ hG hO
    replace hE : Chg (fun k => k = gr) wr W := hE
    have v1 := (hF 1 (by decide) (hD 1 (by kernel_rfl))).eq rfl
    have g1 := hG 1 21 rfl (Nat.le_of_ble_eq_true rfl)
    rw [v1] at g1
    have hA := hZ.fst (by decide) hn
    obtain ⟨z9, -⟩ := hcells.out W hA
    replace hZ := Lib.hid hZ
    go_wp2_with fail
    exact ⟨_, rfl, Chg.refl _ _, VC.val rfl rfl, hZ.out.light (by decide) (fun h => RefAt.on h (Below.refl _ _)) (fun h => (h.elim fun us2 h2 => ⟨us2, RefAt.on h2 (Below.refl _ _)⟩))⟩
  · intro ys done W aa hE hn hF hD hZ hG hO
    replace hE : Chg (fun k => k = gr) wr W := hE
    have v2 := (hF 2 (by decide) (hD 2 (by kernel_rfl))).eq rfl
    have g2 := hG 2 22 rfl (Nat.le_of_ble_eq_true rfl)
    rw [v2] at g2
    have hA := hZ.fst (by decide) hn
    obtain ⟨z9, z0, z1, z2⟩ := hcells.out W hA
    replace hZ := Lib.hid hZ
    go_wp2_with fail
    exact ⟨_, rfl, Chg.refl _ _, VC.val rfl rfl, hZ.out.light (by decide) (fun h => RefAt.on h (Below.refl _ _)) (fun h => (h.elim fun us2 h2 => ⟨us2, RefAt.on h2 (Below.refl _ _)⟩))⟩
  · intro ys done W aa hE hn hF hD hZ hG hO
    replace hE : Chg (fun k => k = gr) wr W := hE
    have o6 := hO 6 (by kernel_rfl)
    replace o6 : aa.tmps[6]? = some (.int .i64 i) := o6
    replace hZ := Lib.hid hZ
    go_wp2_with fail
    exact ⟨_, rfl, Chg.refl _ _, VC.val rfl rfl, hZ.out.light (by decide) (fun h => RefAt.on h (Below.refl _ _)) (fun h => (h.elim fun us2 h2 => ⟨us2, RefAt.on h2 (Below.refl _ _)⟩))⟩
  · intro ys done W aa hE hn hF hD hZ hG hO
    replace hE : Chg (fun k => k = gr) wr W := hE
    have o0 := hO 0 (by kernel_rfl)
    replace o0 : aa.tmps[0]? = some (.pointer (some ⟨p, 0, none⟩)) := o0
    replace hZ := Lib.hid hZ
    go_wp2_with fail
    exact ⟨_, rfl, Chg.refl _ _, VC.val rfl rfl, hZ.out.light (by decide) (fun h => RefAt.on h (Below.refl _ _)) (fun h => (h.elim fun us2 h2 => ⟨us2, RefAt.on h2 (Below.refl _ _)⟩))⟩
  · intro ys done W aa hE hn hF hD hZ hG hO
    replace hE : Chg (fun k => k = gr) wr W := hE
    have v5 := (hF 5 (by decide) (hD 5 (by kernel_rfl))).eq rfl
    have g5 := hG 5 25 rfl (Nat.le_of_ble_eq_true rfl)
    rw [v5] at g5
    have hA := hZ.fst (by decide) hn
    obtain ⟨z9, -⟩ := hcells.out W hA
    replace hZ := Lib.hid hZ
    go_wp2_with fail
    exact ⟨_, rfl, Chg.refl _ _, VC.val rfl rfl, hZ.out.light (by decide) (fun h => RefAt.on h (Below.refl _ _)) (fun h => (h.elim fun us2 h2 => ⟨us2, RefAt.on h2 (Below.refl _ _)⟩))⟩
  · intro ys done W aa hE hn hF hD hZ hG hO
    replace hE : Chg (fun k => k = gr) wr W := hE
    have v6 := (hF 6 (by decide) (hD 6 (by kernel_rfl))).eq rfl
    have g6 := hG 6 26 rfl (Nat.le_of_ble_eq_true rfl)
    rw [v6] at g6
    have hA := hZ.fst (by decide) hn
    obtain ⟨z9, -⟩ := hcells.out W hA
    replace hZ := Lib.hid hZ
    go_wp2_with fail
    exact ⟨_, rfl, Chg.refl _ _, VC.val rfl rfl, hZ.out.light (by decide) (fun h => RefAt.on h (Below.refl _ _)) (fun h => (h.elim fun us2 h2 => ⟨us2, RefAt.on h2 (Below.refl _ _)⟩))⟩
  · intro ys done W aa hE hn hF hD hZ hG hO
    replace hE : Chg (fun k => k = gr) wr W := hE
    have v7 := (hF 7 (by decide) (hD 7 (by kernel_rfl))).eq rfl
    have g7 := hG 7 27 rfl (Nat.le_of_ble_eq_true rfl)
    rw [v7] at g7
    have hA := hZ.fst (by decide) hn
    obtain ⟨z9, z0, z1, z2⟩ := hcells.out W hA
    replace hZ := Lib.hid hZ
    go_wp2_with fail
    exact ⟨_, rfl, Chg.refl _ _, VC.val rfl rfl, hZ.out.light (by decide) (fun h => RefAt.on h (Below.refl _ _)) (fun h => (h.elim fun us2 h2 => ⟨us2, RefAt.on h2 (Below.refl _ _)⟩))⟩
  · intro ys done W aa hE hn hF hD hZ hG hO
    replace hE : Chg (fun k => k = gr) wr W := hE
    have o6 := hO 6 (by kernel_rfl)
    replace o6 : aa.tmps[6]? = some (.int .i64 i) := o6
    replace hZ := Lib.hid hZ
    go_wp2_with fail
    exact ⟨_, rfl, Chg.refl _ _, VC.val rfl rfl, hZ.out.light (by decide) (fun h => RefAt.on h (Below.refl _ _)) (fun h => (h.elim fun us2 h2 => ⟨us2, RefAt.on h2 (Below.refl _ _)⟩))⟩
  · intro ys done W aa hE hn hF hD hZ hG hO
    replace hE : Chg (fun k => k = gr) wr W := hE
    have v8 := (hF 8 (by decide) (hD 8 (by kernel_rfl))).eq rfl
    have g8 := hG 8 28 rfl (Nat.le_of_ble_eq_true rfl)
    rw [v8] at g8
    have v9 := (hF 9 (by decide) (hD 9 (by kernel_rfl))).eq rfl
    have g9 := hG 9 29 rfl (Nat.le_of_ble_eq_true rfl)
    rw [v9] at g9
    have hA := hZ.fst (by decide) hn
    have z9 := hA.grIn
    replace hZ := Lib.hid hZ
    go_wp2_with fail
    exact ⟨_, rfl, Chg.refl _ _, VC.val rfl rfl, hZ.out.light (by decide) (fun h => RefAt.on h (Below.refl _ _)) (fun h => (h.elim fun us2 h2 => ⟨us2, RefAt.on h2 (Below.refl _ _)⟩))⟩
  · intro ys done W aa hE hn hF hD hZ hG hO
    replace hE : Chg (fun k => k = gr) wr W := hE
    have v10 := (hF 10 (by decide) (hD 10 (by kernel_rfl))).eq rfl
    have g10 := hG 10 30 rfl (Nat.le_of_ble_eq_true rfl)
    rw [v10] at g10
    have hA := hZ.fst (by decide) hn
    obtain ⟨g8, o8, e8, -, z0, z1, z2, z3, z4⟩ := Vhs.at (show Vhs W.heap.size W (.slice (some ⟨gv, ov, none⟩) Nf cf) S.vs from hA.vs.1) hvat.out
    cases e8
    replace hZ := Lib.hid hZ
    go_wp2_with fail
    exact ⟨_, rfl, Chg.refl _ _, VC.val rfl rfl, hZ.out.light (by decide) (fun h => RefAt.on h (Below.refl _ _)) (fun h => (h.elim fun us2 h2 => ⟨us2, RefAt.on h2 (Below.refl _ _)⟩))⟩
  · intro ys done W aa hE hn hF hD hZ hG hO
    replace hE : Chg (fun k => k = gr) wr W := hE
    have o0 := hO 0 (by kernel_rfl)
    replace o0 : aa.tmps[0]? = some (.pointer (some ⟨p, 0, none⟩)) := o0
    replace hZ := Lib.hid hZ
    go_wp2_with fail
    exact ⟨_, rfl, Chg.refl _ _, VC.val rfl rfl, hZ.out.light (by decide) (fun h => RefAt.on h (Below.refl _ _)) (fun h => (h.elim fun us2 h2 => ⟨us2, RefAt.on h2 (Below.refl _ _)⟩))⟩
  · intro ys done W aa hE hn hF hD hZ hG hO
    replace hE : Chg (fun k => k = gr) wr W := hE
    have v12 := (hF 12 (by decide) (hD 12 (by kernel_rfl))).eq rfl
    have g12 := hG 12 32 rfl (Nat.le_of_ble_eq_true rfl)
    rw [v12] at g12
    have hA := hZ.fst (by decide) hn
    obtain ⟨z9, -⟩ := hcells.out W hA
    replace hZ := Lib.hid hZ
    go_wp2_with fail
    exact ⟨_, rfl, Chg.refl _ _, VC.val rfl rfl, hZ.out.light (by decide) (fun h => RefAt.on h (Below.refl _ _)) (fun h => (h.elim fun us2 h2 => ⟨us2, RefAt.on h2 (Below.refl _ _)⟩))⟩
  · intro ys done W aa hE hn hF hD hZ hG hO
    replace hE : Chg (fun k => k = gr) wr W := hE
    have v13 := (hF 13 (by decide) (hD 13 (by kernel_rfl))).eq rfl
    have g13 := hG 13 33 rfl (Nat.le_of_ble_eq_true rfl)
    rw [v13] at g13
    have hA := hZ.fst (by decide) hn
    obtain ⟨z9, -⟩ := hcells.out W hA
    replace hZ := Lib.hid hZ
    go_wp2_with fail
    exact ⟨_, rfl, Chg.refl _ _, VC.val rfl rfl, hZ.out.light (by decide) (fun h => RefAt.on h (Below.refl _ _)) (fun h => (h.elim fun us2 h2 => ⟨us2, RefAt.on h2 (Below.refl _ _)⟩))⟩
  · intro ys done W aa hE hn hF hD hZ hG hO
    replace hE : Chg (fun k => k = gr) wr W := hE
    have v14 := (hF 14 (by decide) (hD 14 (by kernel_rfl))).eq rfl
    have g14 := hG 14 34 rfl (Nat.le_of_ble_eq_true rfl)
    rw [v14] at g14
    have hA := hZ.fst (by decide) hn
    obtain ⟨z9, z0, z1, z2⟩ := hcells.out W hA
    replace hZ := Lib.hid hZ
    go_wp2_with fail
    exact ⟨_, rfl, Chg.refl _ _, VC.val rfl rfl, hZ.out.light (by decide) (fun h => RefAt.on h (Below.refl _ _)) (fun h => (h.elim fun us2 h2 => ⟨us2, RefAt.on h2 (Below.refl _ _)⟩))⟩
  · intro ys done W aa hE hn hF hD hZ hG hO
    replace hE : Chg (fun k => k = gr) wr W := hE
    have o6 := hO 6 (by kernel_rfl)
    replace o6 : aa.tmps[6]? = some (.int .i64 i) := o6
    replace hZ := Lib.hid hZ
    go_wp2_with fail
    exact ⟨_, rfl, Chg.refl _ _, VC.val rfl rfl, hZ.out.light (by decide) (fun h => RefAt.on h (Below.refl _ _)) (fun h => (h.elim fun us2 h2 => ⟨us2, RefAt.on h2 (Below.refl _ _)⟩))⟩
  · intro ys done W aa hE hn hF hD hZ hG hO
    replace hE : Chg (fun k => k = gr) wr W := hE
    have v15 := (hF 15 (by decide) (hD 15 (by kernel_rfl))).eq rfl
    have g15 := hG 15 35 rfl (Nat.le_of_ble_eq_true rfl)
    rw [v15] at g15
    have v16 := (hF 16 (by decide) (hD 16 (by kernel_rfl))).eq rfl
    have g16 := hG 16 36 rfl (Nat.le_of_ble_eq_true rfl)
    rw [v16] at g16
    have hA := hZ.fst (by decide) hn
    have z9 := hA.grIn
    replace hZ := Lib.hid hZ
    go_wp2_with fail
    exact ⟨_, rfl, Chg.refl _ _, VC.val rfl rfl, hZ.out.light (by decide) (fun h => RefAt.on h (Below.refl _ _)) (fun h => (h.elim fun us2 h2 => ⟨us2, RefAt.on h2 (Below.refl _ _)⟩))⟩
  · intro ys done W aa hE hn hF hD hZ hG hO
    replace hE : Chg (fun k => k = gr) wr W := hE
    have v17 := (hF 17 (by decide) (hD 17 (by kernel_rfl))).eq rfl
    have g17 := hG 17 37 rfl (Nat.le_of_ble_eq_true rfl)
    rw [v17] at g17
    have hA := hZ.fst (by decide) hn
    have z0 := hA.cell hu'.out
    replace hZ := Lib.hid hZ
    go_wp2_with fail
    exact ⟨_, rfl, Chg.refl _ _, VC.val rfl rfl, hZ.out.light (by decide) (fun h => RefAt.on h (Below.refl _ _)) (fun h => (h.elim fun us2 h2 => ⟨us2, RefAt.on h2 (Below.refl _ _)⟩))⟩
  · intro ys done W aa hE hn hF hD hZ hG hO
    replace hE : Chg (fun k => k = gr) wr W := hE
    have o0 := hO 0 (by kernel_rfl)
    replace o0 : aa.tmps[0]? = some (.pointer (some ⟨p, 0, none⟩)) := o0
    replace hZ := Lib.hid hZ
    go_wp2_with fail
    exact ⟨_, rfl, Chg.refl _ _, VC.val rfl rfl, hZ.out.light (by decide) (fun h => RefAt.on h (Below.refl _ _)) (fun h => (h.elim fun us2 h2 => ⟨us2, RefAt.on h2 (Below.refl _ _)⟩))⟩
  · intro ys done W aa hE hn hF hD hZ hG hO
    replace hE : Chg (fun k => k = gr) wr W := hE
    have v19 := (hF 19 (by decide) (hD 19 (by kernel_rfl))).eq rfl
    have g19 := hG 19 39 rfl (Nat.le_of_ble_eq_true rfl)
    rw [v19] at g19
    have hA := hZ.fst (by decide) hn
    obtain ⟨z9, -⟩ := hcells.out W hA
    replace hZ := Lib.hid hZ
    go_wp2_with fail
    exact ⟨_, rfl, Chg.refl _ _, VC.val rfl rfl, hZ.out.light (by decide) (fun h => RefAt.on h (Below.refl _ _)) (fun h => (h.elim fun us2 h2 => ⟨us2, RefAt.on h2 (Below.refl _ _)⟩))⟩
  · intro ys done W aa hE hn hF hD hZ hG hO
    replace hE : Chg (fun k => k = gr) wr W := hE
    have v20 := (hF 20 (by decide) (hD 20 (by kernel_rfl))).eq rfl
    have g20 := hG 20 40 rfl (Nat.le_of_ble_eq_true rfl)
    rw [v20] at g20
    have hA := hZ.fst (by decide) hn
    obtain ⟨z9, -⟩ := hcells.out W hA
    replace hZ := Lib.hid hZ
    go_wp2_with fail
    exact ⟨_, rfl, Chg.refl _ _, VC.val rfl rfl, hZ.out.light (by decide) (fun h => RefAt.on h (Below.refl _ _)) (fun h => (h.elim fun us2 h2 => ⟨us2, RefAt.on h2 (Below.refl _ _)⟩))⟩
  · intro ys done W aa hE hn hF hD hZ hG hO
    replace hE : Chg (fun k => k = gr) wr W := hE
    have v21 := (hF 21 (by decide) (hD 21 (by kernel_rfl))).eq rfl
    have g21 := hG 21 41 rfl (Nat.le_of_ble_eq_true rfl)
    rw [v21] at g21
    have hA := hZ.fst (by decide) hn
    obtain ⟨z9, z0, z1, z2⟩ := hcells.out W hA
    replace hZ := Lib.hid hZ
    go_wp2_with fail
    exact ⟨_, rfl, Chg.refl _ _, VC.val rfl rfl, hZ.out.light (by decide) (fun h => RefAt.on h (Below.refl _ _)) (fun h => (h.elim fun us2 h2 => ⟨us2, RefAt.on h2 (Below.refl _ _)⟩))⟩
  · intro ys done W aa hE hn hF hD hZ hG hO
    replace hE : Chg (fun k => k = gr) wr W := hE
    have o1 := hO 1 (by kernel_rfl)
    replace o1 : aa.tmps[1]? = some (.int .i64 r) := o1
    replace hZ := Lib.hid hZ
    go_wp2_with fail
    exact ⟨_, rfl, Chg.refl _ _, VC.val rfl rfl, hZ.out.light (by decide) (fun h => RefAt.on h (Below.refl _ _)) (fun h => (h.elim fun us2 h2 => ⟨us2, RefAt.on h2 (Below.refl _ _)⟩))⟩
  · intro ys done W aa hE hn hF hD hZ hG hO
    replace hE : Chg (fun k => k = gr) wr W := hE
    have v11 := (hF 11 (by decide) (hD 11 (by kernel_rfl))).eq rfl
    have g11 := hG 11 31 rfl (Nat.le_of_ble_eq_true rfl)
    rw [v11] at g11
    have v18 := (hF 18 (by decide) (hD 18 (by kernel_rfl))).eq rfl
    have g18 := hG 18 38 rfl (Nat.le_of_ble_eq_true rfl)
    rw [v18] at g18
    have v22 := (hF 22 (by decide) (hD 22 (by kernel_rfl))).eq rfl
    have g22 := hG 22 42 rfl (Nat.le_of_ble_eq_true rfl)
    rw [v22] at g22
    have v23 := (hF 23 (by decide) (hD 23 (by kernel_rfl))).eq rfl
    have g23 := hG 23 43 rfl (Nat.le_of_ble_eq_true rfl)
    rw [v23] at g23
    have hA := hZ.fst (by decide) hn
    replace hZ := Lib.hid hZ
    go_wp2_with fail
    refine (refPut_any v _ _ l S.t hl16 hnum'.out r W ((hA.rows i _ l hu'.out hlat.out).1) (show Rqs W.heap.size W _ S.t from hA.t.1)).mono ?_
    rintro e W' ⟨⟨u9, rfl, hu9⟩, hb'⟩
    unfold RPutOk at hu9
    rw [if_pos hrE.out, hrC.out] at hu9
    obtain ⟨y9, M9, c9, rfl, hM9, -⟩ := hu9.1.opened
    obtain rfl : M9 = m.length := hM9.out.symm
    rw [hrN.out, hrE.out]
    have hsW := hE.size
    have hr9 := Lib.hid (RowD.new (D := D) (show RowB W'.heap.size W' _ 2 (m.map stV) from hu9.1) hu9.2 (fun k hk => by have := hDlt.out k hk; omega))
    clear hu9 hM9
    replace hb' := Lib.hid hb'
    go_wp2_with fail
    exact ⟨_, rfl, Chg.of_below hb'.out, VC.of rfl ⟨_, _, rfl, hr9.out⟩, hZ.out.light (by decide) (fun h => RefAt.on h (hb'.out)) (fun h => (h.elim fun us2 h2 => ⟨us2, RefAt.on h2 (hb'.out)⟩))⟩
  · intro ys done W aa hE hn hF hD hZ hG hO
    replace hE : Chg (fun k => k = gr) wr W := hE
    have v24 := (hF 24 (by decide) (hD 24 (by kernel_rfl))).get rfl
    have g24 := hG 24 44 rfl (Nat.le_of_ble_eq_true rfl)
    replace hZ := Lib.hid hZ
    go_wp2_with fail
    exact ⟨_, rfl, Chg.refl _ _, VC.of rfl v24, hZ.out.light (by decide) (fun h => RefAt.on h (Below.refl _ _)) (fun h => (h.elim fun us2 h2 => ⟨us2, RefAt.on h2 (Below.refl _ _)⟩))⟩
  · intro ys done W aa hE hn hF hD hZ hG hO
    replace hE : Chg (fun k => k = gr) wr W := hE
    have v25 := (hF 25 (by decide) (hD 25 (by kernel_rfl))).get rfl
    have g25 := hG 25 19 rfl (Nat.le_of_ble_eq_true rfl)
    have hA := hZ.fst (by decide) hn
    obtain ⟨y9, c9, e9, hr9⟩ := v25
    rw [e9] at g25
    replace hr9 := Lib.hid hr9
    replace hZ := Lib.hid hZ
    go_wp2_with fail
    exact ⟨_, rfl, Chg.refl _ _, VC.of rfl ⟨⟨y9, c9, rfl⟩, hr9.out⟩, hZ.out.light (by decide) (fun h => RefAt.on h (Below.refl _ _)) (fun h => (h.elim fun us2 h2 => ⟨us2, RefAt.on h2 (Below.refl _ _)⟩))⟩
  · intro ys done W aa hE hn hF hD hZ hG hO
    replace hE : Chg (fun k => k = gr) wr W := hE
    have v25 := (hF 25 (by decide) (hD 25 (by kernel_rfl))).get rfl
    have g25 := hG 25 19 rfl (Nat.le_of_ble_eq_true rfl)
    obtain ⟨y9, c9, e9, hr9⟩ := v25
    rw [e9] at g25
    replace hr9 := Lib.hid hr9
    replace hZ := Lib.hid hZ
    go_wp2_with fail
    exact ⟨_, rfl, Chg.refl _ _, VC.val rfl rfl, hZ.out.light (by decide) (fun h => RefAt.on h (Below.refl _ _)) (fun h => (h.elim fun us2 h2 => ⟨us2, RefAt.on h2 (Below.refl _ _)⟩))⟩
  · intro ys done W aa hE hn hF hD hZ hG hO
    replace hE : Chg (fun k => k = gr) wr W := hE
    have v25 := (hF 25 (by decide) (hD 25 (by kernel_rfl))).get rfl
    have g25 := hG 25 19 rfl (Nat.le_of_ble_eq_true rfl)
    obtain ⟨y9, c9, e9, hr9⟩ := v25
    rw [e9] at g25
    replace hr9 := Lib.hid hr9
    replace hZ := Lib.hid hZ
    go_wp2_with fail
    exact ⟨_, rfl, Chg.refl _ _, VC.val rfl rfl, hZ.out.light (by decide) (fun h => RefAt.on h (Below.refl _ _)) (fun h => (h.elim fun us2 h2 => ⟨us2, RefAt.on h2 (Below.refl _ _)⟩))⟩
  · intro ys done W aa hE hn hF hD hZ hG hO
    replace hE : Chg (fun k => k = gr) wr W := hE
    have v3 := (hF 3 (by decide) (hD 3 (by kernel_rfl))).eq rfl
    have g3 := hG 3 23 rfl (Nat.le_of_ble_eq_true rfl)
    rw [v3] at g3
    have v4 := (hF 4 (by decide) (hD 4 (by kernel_rfl))).eq rfl
    have g4 := hG 4 24 rfl (Nat.le_of_ble_eq_true rfl)
    rw [v4] at g4
    replace hZ := Lib.hid hZ
    go_wp2_with fail
    exact ⟨_, rfl, Chg.refl _ _, VC.val rfl rfl, hZ.out.light (by decide) (fun h => RefAt.on h (Below.refl _ _)) (fun h => (h.elim fun us2 h2 => ⟨us2, RefAt.on h2 (Below.refl _ _)⟩))⟩
  · intro ys done W aa hE hn hF hD hZ hG hO
    replace hE : Chg (fun k => k = gr) wr W := hE
    have v29 := (hF 29 (by decide) (hD 29 (by kernel_rfl))).eq rfl
    have g29 := hG 29 48 rfl (Nat.le_of_ble_eq_true rfl)
    rw [v29] at g29
    have v26 := (hF 26 (by decide) (hD 26 (by kernel_rfl))).get rfl
    have g26 := hG 26 45 rfl (Nat.le_of_ble_eq_true rfl)
    have hA := hZ.a hn
    replace hD := Lib.hid (show ∀ i, i < 27 → done i = true by intro i hi; rcases (by omega : i = 0 ∨ i = 1 ∨ i = 2 ∨ i = 3 ∨ i = 4 ∨ i = 5 ∨ i = 6 ∨ i = 7 ∨ i = 8 ∨ i = 9 ∨ i = 10 ∨ i = 11 ∨ i = 12 ∨ i = 13 ∨ i = 14 ∨ i = 15 ∨ i = 16 ∨ i = 17 ∨ i = 18 ∨ i = 19 ∨ i = 20 ∨ i = 21 ∨ i = 22 ∨ i = 23 ∨ i = 24 ∨ i = 25 ∨ i = 26) with rfl | rfl | rfl | rfl | rfl | rfl | rfl | rfl | rfl | rfl | rfl | rfl | rfl | rfl | rfl | rfl | rfl | rfl | rfl | rfl | rfl | rfl | rfl | rfl | rfl | rfl | rfl; all_goals exact hD _ (by kernel_rfl))
    obtain ⟨⟨y9, c9, e9⟩, hr9⟩ := v26
    rw [e9] at g26 hr9
    have hfz := hA.own.frozenAt i
    have hcl := hA.cell hu'.out
    have hgi := hA.grIn
    have hfin := Lib.hid (hA.put hlt'.out hr9)
    clear hA hZ hr9 e9
    go_wp2_with fail
    exact ⟨Chg.set (D := fun k => k = gr) W (g := gr) rfl i _, ⟨undef, VC.any rfl⟩, ZQ.put (by decide) hD.out ⟨_, hfin.out⟩⟩
 case hQA =>
  intro ys w6 hE hF hZ
  replace hE : Chg (fun k => k = gr) wr w6 := hE
  obtain ⟨done, hdn, hZ⟩ := hZ
  have hP1 := hZ.b (hdn 30 (by decide))
  simp only [List.take_succ_cons, List.take_zero, List.drop_succ_cons, List.drop_zero, Sched.fill]
  clear hF hZ hdn 
  go_simp
  obtain ⟨us9, hP9⟩ := hP1
  have hfin := Lib.hid hP9
  have hch := Lib.hid (hC0.out.trans hE)
  clear hP9 hE
  go_wp2
  refine bodyPost_ret (v := .tuple #[.int .i64 n, .int .i64 0]) (by simp [results, Tryz.results42, go_sem]) rfl ?_
  exact ⟨ret_put2 rfl rfl, ⟨us9, by rw [hput.out]; exact hfin.out⟩, hch.out⟩
end Go.Proofs.YtlbghdiebjldjaaGreatDoor.Plan
namespace Go.Proofs.YtlbghdiebjldjaaGreatDoor.Plan
open Go.RowKit Go.Sort Go.Proofs.YtlbghdiebjldjaaGreatDoor.Mem Go.Proofs.YtlbghdiebjldjaaGreatDoor.Route Go.Proofs.YtlbghdiebjldjaaGreatDoor.When
set_option linter.unusedVariables false
set_option maxRecDepth 100000 in
set_option maxHeartbeats 1000000 in
theorem refWithout_own (v : Value) (l : List (Int × Int)) (r : Int) (hl : l.length ≤ 1000000) (w : World) (h : Row w.heap.size w v l) :
 Calls Tryz.prog 70 #[v, .int .i64 r] w fun e w' => (∃ x c, e = .returned (.slice x (woL r l).length c) ∧ w'.ownsRow w.heap.size 75 2 (.slice x (woL r l).length c) (woL r l).length (flatS (woL r l))) ∧ Below w.heap.size w w' := by
 obtain ⟨i0, hi, hz0, hz1, hz2⟩ := info_parts info_stop
 obtain ⟨x, N, cap, rfl, hN', h0', hc1, hc2⟩ := h.opened
 have h' := Lib.hid h
 rw [hN'.out] at hl
 clear h
 go_enter Tryz.func70, Tryz.ntmps70
 go_wp2
 go_loopw [5, 6] (fun u i wr => ∃ k : Nat, k ≤ N ∧ i = .int .i64 k ∧ wr.ownsRow w.heap.size 75 2 u (woL r (l.take k)).length (flatS (woL r (l.take k))) ∧ Below w.heap.size w wr)
  (fun _ i _ => N - (intOf i).toNat)
 case atStart => exact ⟨0, by omega, rfl, by simpa [woL, flatS] using World.ownsRow_nil _ _ _ _, Below.refl _ _⟩
 case round =>
  obtain ⟨k, hk, rfl, hown, hbw⟩ := hrel
  by_cases hlt : k < N
  · obtain ⟨s, hs, _⟩ := drop_get (l := l) (k := k) (by rw [hN'.out]; exact hlt)
    obtain ⟨g, o, rfl, hg, e1, e2⟩ := Row.stop h'.out hs
    have e1 := (hbw.cell (p := ⟨g, o + k * 2, none⟩) hg).trans e1
    have e2 := (hbw.cell (p := ⟨g, o + k * 2 + 1, none⟩) hg).trans e2
    have hyes := Lib.hid (wo_succ_yes (r := r) hs)
    have hno := Lib.hid (wo_succ_no (r := r) hs)
    have hln := wo_take_le r l k
    clear hs
    obtain ⟨s1, s2⟩ := s
    simp at e1 e2
    cases h1 : (s1 == r)
    · have hy := Lib.hid (hyes.out (by simpa using h1))
      clear hyes hno
      generalize woL r (l.take k) = L at *
      have hs := hbw.size
      go_wp2_with (at_builtin; refine wpList_append_own _ rfl _ _ 59 rfl w.heap.size 75 i0 (.agg #[.int .i64 0, .int .i64 0]) 2 16 Tryz.underlying59 hi hz0 hz1 hz2 rfl (by decide) _ _ _ rfl (hown.alloc _) ⟨wr.heap.size, 0, none⟩ 1 1 [.int .i64 s1, .int .i64 s2] rfl rfl (World.news_of_block (cs := #[.int .i64 s1, .int .i64 s2]) (t := 75) (fr := (0, 0)) (heap_alloc_new wr _)) (by simp [Value.oneCell']) (by unfold maxLen; omega) (by omega) (by simp; omega) ?_; intro v7 w7 hown7 hgrow7 hnil7)
      have hb7 : Below w.heap.size w w7 := (hbw.alloc hbw.size _).grown hgrow7 (by simp; omega) (owns_row hown)
      go_roundw
      case rel => exact ⟨k + 1, by omega, by go_num, by rw [hy.out, flatS_snoc, List.length_append]; exact hown7, hb7⟩
      case measure => simp [intOf]; omega
    · have hy := Lib.hid (hno.out (by simpa using h1))
      clear hyes hno
      go_wp2
      go_roundw
      case rel => exact ⟨k + 1, by omega, by go_num, by rw [hy.out]; exact hown, hbw⟩
      case measure => simp [intOf]; omega
  · obtain rfl : k = N := by omega
    have he : l.take k = l := by rw [← hN'.out, List.take_length]
    rw [he] at hown
    clear he
    obtain ⟨x, c, rfl, _, _⟩ := owns_slice hown
    have hr := Lib.hid hown
    clear hown
    go_wp2
    go_ret
    exact ⟨⟨_, _, rfl, hr.out⟩, hbw⟩
end Go.Proofs.YtlbghdiebjldjaaGreatDoor.Plan
namespace Go.Proofs.YtlbghdiebjldjaaGreatDoor.Plan
open Go.RowKit Go.Sort Go.Proofs.YtlbghdiebjldjaaGreatDoor.Mem Go.Proofs.YtlbghdiebjldjaaGreatDoor.Route Go.Proofs.YtlbghdiebjldjaaGreatDoor.When Go.Proofs.YtlbghdiebjldjaaGreatDoor.Load Go.Proofs.YtlbghdiebjldjaaGreatDoor.Ins Go.Proofs.YtlbghdiebjldjaaGreatDoor.Cheap Go.Proofs.YtlbghdiebjldjaaGreatDoor.Feas
set_option linter.unusedVariables false
theorem Ok.short {S : St} (ho : Ok S) : ∀ l ∈ S.rows, l.length ≤ 1000000 := fun l hl => by
 obtain ⟨i, hi, e⟩ := List.getElem_of_mem hl
 have hv : i < S.vs.length := by rw [← ho.len]; exact hi
 have := (ho.dr i S.vs[i] l (List.getElem?_eq_getElem hv) (by rw [← e]; exact List.getElem?_eq_getElem hi)).1.hn
 omega
set_option maxRecDepth 100000 in
set_option maxHeartbeats 8000000 in
theorem refTake_any {D : Nat → Prop} {lo : Nat} {p gr : Nat} {vf vt : Value} {cap : Nat} {us : List Value} {S : St} (r : Int) (w : World) (h : RefAt D lo w p gr vf vt cap us S) (ho : Ok S) :
 Calls Tryz.prog 43 #[.pointer (some ⟨p, 0, none⟩), .int .i64 r] w fun e w' =>
  e = .returned (.int .i64 (takeE S r)) ∧ (∃ us', RefAt D lo w' p gr vf vt cap us' (takeS S r)) ∧ Chg (fun k => k = gr) w w' := by
 obtain ⟨hc1, hc2⟩ := h.bd
 have hN4 : S.rows.length ≤ 4 := by rw [ho.len]; exact ho.cnt.2
 have hWh := refWhere_any r w h ho.short (by omega)
 obtain ⟨Nf, hN0⟩ : ∃ N, S.rows.length = N := ⟨_, rfl⟩
 unfold maxLen at hc2
 have hbx := h.box
 rw [hN0] at hbx hc1 hN4
 have b0 := hbx.cell 2
 simp at b0
 have hp := h.box.inside
 have h' := Lib.hid h
 have ho' := Lib.hid ho
 have hN := Lib.hid hN0
 obtain ⟨V, hV⟩ : ∃ V, whereV S.rows r = V := ⟨_, rfl⟩
 rw [hV] at hWh
 have hV' := Lib.hid hV
 clear hN0 hV
 by_cases h3 : V < 0
 · have he := Lib.hid (show takeE S r = 12 by unfold takeE; rw [hV'.out, if_pos h3])
   have ht := Lib.hid (takeS_no (S := S) (r := r) (by rw [hV'.out]; exact h3))
   clear h ho hbx
   go_enter Tryz.func43, Tryz.ntmps43
   go_wp2_with fail
   refine hWh.mono ?_
   rintro e w2 ⟨rfl, rfl⟩
   clear hWh
   go_wp2
   go_ret
   exact ⟨Route.ret_int he.out.symm, ⟨us, by rw [ht.out]; exact h'.out⟩, Chg.refl _ _⟩
 have he := Lib.hid (show takeE S r = 0 by unfold takeE; rw [hV'.out, if_neg h3])
 obtain ⟨k, hk⟩ : ∃ k : Nat, V = k := ⟨V.toNat, by omega⟩
 subst hk
 obtain ⟨i, l, hi, hl, -, -⟩ := where_some (r := r) (rows := S.rows) (by rw [hV'.out]; omega)
 obtain rfl : i = k := by have := hV'.out; omega
 have hlt : i < S.rows.length := (List.getElem?_eq_some_iff.1 hl).1
 obtain ⟨u, hu, hru, hrow⟩ := h.at_ hl
 have hgr := h.grIn
 have hts := Lib.hid (takeS_yes hV'.out hl)
 have hl16 : l.length ≤ 1000000 := ho.short l (List.mem_of_getElem? hl)
 have hkF : (i : Int) < (Nf : Int) := by have := hN.out; omega
 have hlt' := Lib.hid hlt
 obtain ⟨xu, Nu, cu, rfl, -⟩ := hrow.opened
 have hrow' := Lib.hid hrow
 obtain ⟨m, hm⟩ : ∃ m, woL r l = m := ⟨_, rfl⟩
 rw [hm] at hts
 have hm' := Lib.hid hm
 clear h ho hl hu hrow hm hlt hi h3
 go_enter Tryz.func43, Tryz.ntmps43
 go_wp2_with fail
 refine hWh.mono ?_
 rintro e wr ⟨rfl, rfl⟩
 clear hWh
 go_upto_region 4 with fail
 refine Sched.wp_region_sched 14 (fun W W' => Below W.heap.size W W') (VK [.val (.pointer (some ⟨p, 0, none⟩)), .val (.pointer (some ⟨p, 0, none⟩)), .val (.pointer (some ⟨p, 2, none⟩)), .val (.slice (some ⟨gr, 0, none⟩) Nf cap), .val (.int .i64 i), .val (.pointer (some ⟨p, 0, none⟩)), .val (.pointer (some ⟨p, 0, none⟩)), .val (.pointer (some ⟨p, 2, none⟩)), .val (.slice (some ⟨gr, 0, none⟩) Nf cap), .val (.int .i64 i), .val (.pointer (some ⟨gr, i, none⟩)), .val (.slice xu Nu cu), .val (.int .i64 r), .of (fun x W => ∃ y c, x = .slice y m.length c ∧ Row W.heap.size W x m ∧ ∀ g, x.ownBlock = some g → wr.heap.size ≤ g) (fun ⟨y, c, e, h1, h2⟩ hb => ⟨y, c, e, h1.on hb, h2⟩)]) (fun _ _ _ => True) (by kernel_rfl) (by kernel_rfl) (by kernel_rfl) (fun h1 h2 => belowTr h1 h2) (fun h1 h2 => VK.keep h1 h2) (Below.refl _ _).drew (fun _ => trivial) (Sched.StepsA.steps (by kernel_rfl) ?hSA) ?hQA
 case hSA =>
  simp only [List.take_succ_cons, List.take_zero]
  refine ⟨?_, ?_, ?_, ?_, ?_, ?_, ?_, ?_, ?_, ?_, ?_, ?_, ?_, ?_, trivial⟩
  · intro ys done W aa hE hn hF hD hZ hG hO
    replace hE : Below wr.heap.size wr W := hE
    have o0 := hO 0 (by kernel_rfl)
    replace o0 : aa.tmps[0]? = some (.pointer (some ⟨p, 0, none⟩)) := o0
    go_wp2_with fail
    first | exact ⟨_, rfl, Below.refl _ _, VK.val rfl rfl, trivial⟩ | exact ⟨_, rfl, Below.refl _ _, VK.val rfl rfl⟩
  · intro ys done W aa hE hn hF hD hZ hG hO
    replace hE : Below wr.heap.size wr W := hE
    have v0 := (hF 0 (by decide) (hD 0 (by kernel_rfl))).eq rfl
    have g0 := hG 0 11 rfl (Nat.le_of_ble_eq_true rfl)
    rw [v0] at g0
    go_wp2_with fail
    first | exact ⟨_, rfl, Below.refl _ _, VK.val rfl rfl, trivial⟩ | exact ⟨_, rfl, Below.refl _ _, VK.val rfl rfl⟩
  · intro ys done W aa hE hn hF hD hZ hG hO
    replace hE : Below wr.heap.size wr W := hE
    have v1 := (hF 1 (by decide) (hD 1 (by kernel_rfl))).eq rfl
    have g1 := hG 1 12 rfl (Nat.le_of_ble_eq_true rfl)
    rw [v1] at g1
    go_wp2_with fail
    first | exact ⟨_, rfl, Below.refl _ _, VK.val rfl rfl, trivial⟩ | exact ⟨_, rfl, Below.refl _ _, VK.val rfl rfl⟩
  · intro ys done W aa hE hn hF hD hZ hG hO
    replace hE : Below wr.heap.size wr W := hE
    have v2 := (hF 2 (by decide) (hD 2 (by kernel_rfl))).eq rfl
    have g2 := hG 2 13 rfl (Nat.le_of_ble_eq_true rfl)
    rw [v2] at g2
    have hAt := hbx.keep hE hbx.inside
    have pc := hAt.cell 2
    simp at pc
    clear hAt
    go_wp2_with fail
    first | exact ⟨_, rfl, Below.refl _ _, VK.val rfl rfl, trivial⟩ | exact ⟨_, rfl, Below.refl _ _, VK.val rfl rfl⟩
  · intro ys done W aa hE hn hF hD hZ hG hO
    replace hE : Below wr.heap.size wr W := hE
    have o5 := hO 5 (by kernel_rfl)
    replace o5 : aa.tmps[5]? = some (.int .i64 i) := o5
    go_wp2_with fail
    first | exact ⟨_, rfl, Below.refl _ _, VK.val rfl rfl, trivial⟩ | exact ⟨_, rfl, Below.refl _ _, VK.val rfl rfl⟩
  · intro ys done W aa hE hn hF hD hZ hG hO
    replace hE : Below wr.heap.size wr W := hE
    have o0 := hO 0 (by kernel_rfl)
    replace o0 : aa.tmps[0]? = some (.pointer (some ⟨p, 0, none⟩)) := o0
    go_wp2_with fail
    first | exact ⟨_, rfl, Below.refl _ _, VK.val rfl rfl, trivial⟩ | exact ⟨_, rfl, Below.refl _ _, VK.val rfl rfl⟩
  · intro ys done W aa hE hn hF hD hZ hG hO
    replace hE : Below wr.heap.size wr W := hE
    have v5 := (hF 5 (by decide) (hD 5 (by kernel_rfl))).eq rfl
    have g5 := hG 5 16 rfl (Nat.le_of_ble_eq_true rfl)
    rw [v5] at g5
    go_wp2_with fail
    first | exact ⟨_, rfl, Below.refl _ _, VK.val rfl rfl, trivial⟩ | exact ⟨_, rfl, Below.refl _ _, VK.val rfl rfl⟩
  · intro ys done W aa hE hn hF hD hZ hG hO
    replace hE : Below wr.heap.size wr W := hE
    have v6 := (hF 6 (by decide) (hD 6 (by kernel_rfl))).eq rfl
    have g6 := hG 6 17 rfl (Nat.le_of_ble_eq_true rfl)
    rw [v6] at g6
    go_wp2_with fail
    first | exact ⟨_, rfl, Below.refl _ _, VK.val rfl rfl, trivial⟩ | exact ⟨_, rfl, Below.refl _ _, VK.val rfl rfl⟩
  · intro ys done W aa hE hn hF hD hZ hG hO
    replace hE : Below wr.heap.size wr W := hE
    have v7 := (hF 7 (by decide) (hD 7 (by kernel_rfl))).eq rfl
    have g7 := hG 7 18 rfl (Nat.le_of_ble_eq_true rfl)
    rw [v7] at g7
    have hAt := hbx.keep hE hbx.inside
    have pc := hAt.cell 2
    simp at pc
    clear hAt
    go_wp2_with fail
    first | exact ⟨_, rfl, Below.refl _ _, VK.val rfl rfl, trivial⟩ | exact ⟨_, rfl, Below.refl _ _, VK.val rfl rfl⟩
  · intro ys done W aa hE hn hF hD hZ hG hO
    replace hE : Below wr.heap.size wr W := hE
    have o5 := hO 5 (by kernel_rfl)
    replace o5 : aa.tmps[5]? = some (.int .i64 i) := o5
    go_wp2_with fail
    first | exact ⟨_, rfl, Below.refl _ _, VK.val rfl rfl, trivial⟩ | exact ⟨_, rfl, Below.refl _ _, VK.val rfl rfl⟩
  · intro ys done W aa hE hn hF hD hZ hG hO
    replace hE : Below wr.heap.size wr W := hE
    have v8 := (hF 8 (by decide) (hD 8 (by kernel_rfl))).eq rfl
    have g8 := hG 8 19 rfl (Nat.le_of_ble_eq_true rfl)
    rw [v8] at g8
    have v9 := (hF 9 (by decide) (hD 9 (by kernel_rfl))).eq rfl
    have g9 := hG 9 20 rfl (Nat.le_of_ble_eq_true rfl)
    rw [v9] at g9
    go_wp2_with fail
    first | exact ⟨_, rfl, Below.refl _ _, VK.val rfl rfl, trivial⟩ | exact ⟨_, rfl, Below.refl _ _, VK.val rfl rfl⟩
  · intro ys done W aa hE hn hF hD hZ hG hO
    replace hE : Below wr.heap.size wr W := hE
    have v10 := (hF 10 (by decide) (hD 10 (by kernel_rfl))).eq rfl
    have g10 := hG 10 21 rfl (Nat.le_of_ble_eq_true rfl)
    rw [v10] at g10
    have z0 := (hE.cell (p := ⟨gr, i, none⟩) hgr).trans hru
    go_wp2_with fail
    first | exact ⟨_, rfl, Below.refl _ _, VK.val rfl rfl, trivial⟩ | exact ⟨_, rfl, Below.refl _ _, VK.val rfl rfl⟩
  · intro ys done W aa hE hn hF hD hZ hG hO
    replace hE : Below wr.heap.size wr W := hE
    have o1 := hO 1 (by kernel_rfl)
    replace o1 : aa.tmps[1]? = some (.int .i64 r) := o1
    go_wp2_with fail
    first | exact ⟨_, rfl, Below.refl _ _, VK.val rfl rfl, trivial⟩ | exact ⟨_, rfl, Below.refl _ _, VK.val rfl rfl⟩
  · intro ys done W aa hE hn hF hD hZ hG hO
    replace hE : Below wr.heap.size wr W := hE
    have v11 := (hF 11 (by decide) (hD 11 (by kernel_rfl))).eq rfl
    have g11 := hG 11 22 rfl (Nat.le_of_ble_eq_true rfl)
    rw [v11] at g11
    have v12 := (hF 12 (by decide) (hD 12 (by kernel_rfl))).eq rfl
    have g12 := hG 12 23 rfl (Nat.le_of_ble_eq_true rfl)
    rw [v12] at g12
    go_wp2_with fail
    refine (refWithout_own _ l r hl16 W (hrow'.out.on hE)).mono ?_
    rintro e W' ⟨⟨y9, c9, rfl, hu9⟩, hb'⟩
    rw [hm'.out] at hu9 ⊢
    have hs9 : wr.heap.size ≤ W.heap.size := hE.size
    have hu := Lib.hid (And.intro (Row.of_owns (B := W'.heap.size) hu9 rfl (Nat.le_refl _)) (fun g e => Nat.le_trans hs9 (World.ownsRow.lt hu9 g e).1 : ∀ g, (Value.slice y9 m.length c9).ownBlock = some g → wr.heap.size ≤ g))
    clear hu9
    replace hb' := Lib.hid hb'
    skip
    go_wp2_with fail
    first | exact ⟨_, rfl, hb'.out, VK.of rfl ⟨_, _, rfl, hu.out.1, hu.out.2⟩, trivial⟩ | exact ⟨_, rfl, hb'.out, VK.of rfl ⟨_, _, rfl, hu.out.1, hu.out.2⟩⟩
 case hQA =>
  intro ys w6 hE hF _
  replace hE : Below wr.heap.size wr w6 := hE
  have v3 := (hF 3 (by decide)).eq rfl
  have v4 := (hF 4 (by decide)).eq rfl
  obtain ⟨y9, c9, e13, hr9, hn9⟩ := (hF 13 (by decide)).get rfl
  simp only [List.take_succ_cons, List.take_zero, List.drop_succ_cons, List.drop_zero, Sched.fill, e13, v3, v4]
  rw [e13] at hr9 hn9
  clear hF e13 v3 v4
  go_simp
  have hA6 := h'.out.on hE
  have hgr6 : gr < w6.heap.size := hA6.grIn
  have hcf := hA6.own.frozenAt i
  obtain ⟨uo, huo⟩ : ∃ uo, w6.cell? ⟨gr, i, none⟩ = some uo := ⟨_, (hE.cell (p := ⟨gr, i, none⟩) hgr).trans hru⟩
  have hfin := Lib.hid (hA6.put hlt'.out (RowD.new hr9 hn9 h'.out.lt))
  have hch := Lib.hid ((Chg.of_below (D := fun k => k = gr) hE).trans (Chg.set (D := fun k => k = gr) w6 (g := gr) rfl i (.slice y9 m.length c9)))
  clear hA6 hr9 hn9 hE b0 hbx hru
  go_wp2
  go_ret
  exact ⟨Route.ret_int he.out.symm, ⟨_, by rw [hts.out]; exact hfin.out⟩, hch.out⟩
end Go.Proofs.YtlbghdiebjldjaaGreatDoor.Plan

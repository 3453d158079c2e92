import Derived.Test.YtlbghdiebjldjaaGreatDoorPkPlanRefNew

namespace Go.Proofs.YtlbghdiebjldjaaGreatDoor.Plan
open Go.RowKit Go.Sort Go.Proofs.YtlbghdiebjldjaaGreatDoor.Mem Go.Proofs.YtlbghdiebjldjaaGreatDoor.Route Go.Proofs.YtlbghdiebjldjaaGreatDoor.When Go.Proofs.YtlbghdiebjldjaaGreatDoor.Load Go.Proofs.YtlbghdiebjldjaaGreatDoor.Ins Go.Proofs.YtlbghdiebjldjaaGreatDoor.Cheap Go.Proofs.YtlbghdiebjldjaaGreatDoor.Feas
set_option linter.unusedVariables false
theorem ret_price {a b c d e f : Int} (h : a = b) (h2 : c = d) (h3 : e = f) : Ending.returned (.tuple #[.int .i64 a, .int .i64 c, .int .i64 e]) = .returned (.tuple #[.int .i64 b, .int .i64 d, .int .i64 f]) := by rw [h, h2, h3]
set_option maxRecDepth 100000 in
set_option maxHeartbeats 8000000 in
theorem refPrice_any {D : Nat → Prop} {lo : Nat} {p gr : Nat} {vf vt : Value} {cap : Nat} {us : List Value} {S : St} (r : Int) (w : World) (h : RefAt D lo w p gr vf vt cap us S) (ho : Ok S) :
 Calls Tryz.prog 44 #[.pointer (some ⟨p, 0, none⟩), .int .i64 r] w fun e w' =>
  e = .returned (.tuple #[.int .i64 (priceI S r), .int .i64 (priceN S r), .int .i64 (priceE S r)]) ∧ Below w.heap.size w w' := by
 obtain ⟨xt, Nt, ct, rfl, hNt0, htc1, htc2, -⟩ := Rqs.opened (show Rqs w.heap.size w vt S.t from h.t.1)
 obtain ⟨xf, Nf, cf, rfl, hNf0, hfc1, hfc2, -⟩ := Vhs.opened (show Vhs w.heap.size w vf S.vs from h.vs.1)
 obtain ⟨hc1, hc2⟩ := h.bd
 have hN0 : S.rows.length = Nf := by rw [ho.len]; exact hNf0
 unfold maxLen at htc2 hfc2 hc2
 have hNf4 : Nf ≤ 4 := by rw [← hNf0]; exact ho.cnt.2
 have hbx := h.box
 rw [hN0] at hbx hc1
 have b0 := hbx.cell 0
 have b1 := hbx.cell 1
 simp at b0 b1
 have hp := h.box.inside
 have hWh := refWhere_any r w h (fun l hl => by
  obtain ⟨i, hi, e⟩ := List.getElem_of_mem hl
  have hv : i < S.vs.length := by rw [← ho.len]; exact hi
  have := (ho.dr i S.vs[i] l (List.getElem?_eq_getElem hv) (by rw [← e]; exact List.getElem?_eq_getElem hi)).1.hn
  omega) (by omega)
 have hin := Lib.hid (inT_iff (t := S.t) (r := r))
 rw [hNt0] at hin
 have h' := Lib.hid h
 have ho' := Lib.hid ho
 have hbx' := Lib.hid hbx
 have hNf := Lib.hid hNf0
 have hN := Lib.hid hN0
 have htl : Nt ≤ 1000 := by rw [← hNt0]; exact ho.tl
 clear h ho hNt0 hNf0 hN0 hbx
 by_cases h1 : r < 0
 · have he := Lib.hid (priceE_stop (S := S) (r := r) (by cases hb : inT S.t r; rfl; have := hin.out.1 hb; omega))
   have hz := Lib.hid (price_no (S := S) (r := r) (by rw [he.out]; omega))
   go_enter Tryz.func44, Tryz.ntmps44
   go_wp2
   refine bodyPost_ret (v := .tuple #[.int .i64 0, .int .i64 0, .int .i64 8]) (by simp [results, Tryz.results44, go_sem]) rfl ?_
   exact ⟨ret_price hz.out.1.symm hz.out.2.symm he.out.symm, Below.refl _ _⟩
 by_cases h2 : (Nt : Int) ≤ r
 · have he := Lib.hid (priceE_stop (S := S) (r := r) (by cases hb : inT S.t r; rfl; have := hin.out.1 hb; omega))
   have hz := Lib.hid (price_no (S := S) (r := r) (by rw [he.out]; omega))
   go_enter Tryz.func44, Tryz.ntmps44
   go_wp2
   refine bodyPost_ret (v := .tuple #[.int .i64 0, .int .i64 0, .int .i64 8]) (by simp [results, Tryz.results44, go_sem]) rfl ?_
   exact ⟨ret_price hz.out.1.symm hz.out.2.symm he.out.symm, Below.refl _ _⟩
 have hinT : Hid (inT S.t r = true) := Lib.hid (hin.out.2 ⟨by omega, by omega⟩)
 obtain ⟨V, hV⟩ : ∃ V, whereV S.rows r = V := ⟨_, rfl⟩
 rw [hV] at hWh
 have hV' := Lib.hid hV
 clear hV hin
 by_cases h3 : 0 ≤ V
 · have he := Lib.hid (priceE_twice (S := S) (r := r) hinT.out (by rw [hV'.out]; exact h3))
   have hz := Lib.hid (price_no (S := S) (r := r) (by rw [he.out]; omega))
   go_enter Tryz.func44, Tryz.ntmps44
   go_wp2_with fail
   refine hWh.mono ?_
   rintro e w2 ⟨rfl, rfl⟩
   clear hWh
   go_wp2
   refine bodyPost_ret (v := .tuple #[.int .i64 0, .int .i64 0, .int .i64 13]) (by simp [results, Tryz.results44, go_sem]) rfl ?_
   exact ⟨ret_price hz.out.1.symm hz.out.2.symm he.out.symm, Below.refl _ _⟩
 have hVn : V < 0 := by omega
 have hwn : Hid (whereV S.rows r < 0) := Lib.hid (by rw [hV'.out]; exact hVn)
 have hrI : I64 r := ⟨by omega, by omega⟩
 go_enter Tryz.func44, Tryz.ntmps44
 go_wp2_with fail
 refine hWh.mono ?_
 rintro e w2 ⟨rfl, rfl⟩
 clear hWh b1
 have hsame := Lib.hid (rbestF_same ho'.out r)
 go_wp2
 go_loopw [7, 8, 9] (fun b n i wr => ∃ k : Nat, k ≤ Nf ∧ i = .int .i64 k ∧ b = .int .i64 (accP (rbestF S r) k).1 ∧ n = .int .i64 (accP (rbestF S r) k).2 ∧ Below w2.heap.size w2 wr)
  (fun _ _ c _ => Nf - (intOf c).toNat)
 case atStart => exact ⟨0, Nat.zero_le _, rfl, rfl, rfl, Below.refl _ _⟩
 case round =>
  obtain ⟨k, hk, rfl, rfl, rfl, hbw⟩ := hrel
  have hA := h'.out.on hbw
  have hbx := hbx'.out.keep hbw hbx'.out.inside
  clear b0
  have b0 := hbx.cell 0
  simp at b0
  have hpw := hbx.inside
  obtain ⟨A1, hA1⟩ : ∃ A1, (accP (rbestF S r) k).1 = A1 := ⟨_, rfl⟩
  obtain ⟨A2, hA2⟩ : ∃ A2, (accP (rbestF S r) k).2 = A2 := ⟨_, rfl⟩
  rw [hA1, hA2]
  by_cases hlt : k < Nf
  · obtain ⟨v, hv⟩ : ∃ v, S.vs[k]? = some v := ⟨S.vs[k]'(by rw [hNf.out]; exact hlt), List.getElem?_eq_getElem _⟩
    obtain ⟨l, hl⟩ : ∃ l, S.rows[k]? = some l := ⟨S.rows[k]'(by rw [hN.out]; exact hlt), List.getElem?_eq_getElem _⟩
    obtain ⟨gv, ov, rfl, hgv, q0, q1, q2, q3, q4⟩ := Vhs.at (show Vhs wr.heap.size wr (.slice xf Nf cf) S.vs from hA.vs.1) hv
    obtain ⟨u, hu, hru, hrow⟩ := hA.at_ hl
    have hgr := hA.grIn
    obtain ⟨hd, he, -, hnum⟩ := ho'.out.dr k v l hv hl
    have hl16 : l.length ≤ 1000000 := by have := hd.hn; omega
    have hkF : (k : Int) < (Nf : Int) := by omega
    have hkN := Lib.hid hlt
    have hfk := Lib.hid (rbestF_at (r := r) hv hl)
    obtain ⟨xu, Nu, cu, rfl, -⟩ := hrow.opened
    have hrow' := Lib.hid hrow
    have hT' : Hid (Rqs wr.heap.size wr (.slice xt Nt ct) S.t) := Lib.hid hA.t.1
    have hbw' := Lib.hid hbw
    have hnum' := Lib.hid hnum
    have hA' := Lib.hid hA
    obtain ⟨E, hE0⟩ : ∃ E, rbestE v l S.t r = E := ⟨_, rfl⟩
    obtain ⟨B, hB0⟩ : ∃ B, rbestW v l S.t r = B := ⟨_, rfl⟩
    rw [hE0, hB0] at hfk
    have hEE := Lib.hid hE0
    have hBB := Lib.hid hB0
    have hA1' := Lib.hid hA1
    have hA2' := Lib.hid hA2
    have hsz := hbw.size
    clear hv hl hu hrow hd he hnum hbw hA hE0 hB0 hA1 hA2
    go_upto_region 9 with fail
    refine Sched.wp_region_sched 25 (fun W W' => Below wr.heap.size W W') (VV [some (.pointer (some ⟨p, 0, none⟩)), some (.pointer (some ⟨p, 0, none⟩)), some (.pointer (some ⟨p, 0, none⟩)), some (.slice (some ⟨gv, ov, none⟩) Nf cf), some (.int .i64 k), some (.pointer (some ⟨gv, ov + k * 5, none⟩)), some (.agg #[.int .i64 v.hx, .int .i64 v.hy, .int .i64 v.cp, .int .i64 v.st, .int .i64 v.en]), some (.pointer (some ⟨p, 0, none⟩)), some (.pointer (some ⟨p, 0, none⟩)), some (.pointer (some ⟨p, 2, none⟩)), some (.slice (some ⟨gr, 0, none⟩) Nf cap), some (.int .i64 k), some (.pointer (some ⟨gr, k, none⟩)), some (.slice xu Nu cu), some (.pointer (some ⟨p, 0, none⟩)), some (.pointer (some ⟨p, 0, none⟩)), some (.pointer (some ⟨p, 1, none⟩)), some (.slice xt Nt ct), some (.int .i64 r), some (.tuple #[.agg #[.int .i64 B.i, .int .i64 B.j, .int .i64 B.n], .int .i64 E]), some (.tuple #[.agg #[.int .i64 B.i, .int .i64 B.j, .int .i64 B.n], .int .i64 E]), some (.agg #[.int .i64 B.i, .int .i64 B.j, .int .i64 B.n]), some (.int .i64 E), none, none]) (ZP 23 24 wr.heap.size 127 (.int .i64 B.i) (.int .i64 B.j) (.int .i64 B.n)) (by kernel_rfl) (by kernel_rfl) (by kernel_rfl) (fun h1 h2 => h1.trans h2) (fun h1 _ => VV.keep h1) (Below.refl _ _).drew (fun ys => ZP.start _ _) (Sched.StepsA.steps (by kernel_rfl) ?hSA) ?hQA
    case hSA =>
     simp only [List.take_succ_cons, List.take_zero]
     refine ⟨?_, ?_, ?_, ?_, ?_, ?_, ?_, ?_, ?_, ?_, ?_, ?_, ?_, ?_, ?_, ?_, ?_, ?_, ?_, ?_, ?_, ?_, ?_, ?_, ?_, trivial⟩
     · intro ys done W aa hE hn hF hD hZ hG hO
       replace hE : Below wr.heap.size wr W := hE
       have hsz : wr.heap.size ≤ W.heap.size := hE.size
       have o0 := hO 0 (by kernel_rfl)
       replace o0 : aa.tmps[0]? = some (.pointer (some ⟨p, 0, none⟩)) := o0
       go_wp2_with fail
       exact ⟨_, rfl, Below.refl _ _, VV.val rfl rfl, hZ.light (by decide) (by decide) (Below.refl _ _)⟩
     · intro ys done W aa hE hn hF hD hZ hG hO
       replace hE : Below wr.heap.size wr W := hE
       have hsz : wr.heap.size ≤ W.heap.size := hE.size
       have v0 := (hF 0 (by decide) (hD 0 (by kernel_rfl))).eq rfl
       have g0 := hG 0 37 rfl (Nat.le_of_ble_eq_true rfl)
       rw [v0] at g0
       go_wp2_with fail
       exact ⟨_, rfl, Below.refl _ _, VV.val rfl rfl, hZ.light (by decide) (by decide) (Below.refl _ _)⟩
     · intro ys done W aa hE hn hF hD hZ hG hO
       replace hE : Below wr.heap.size wr W := hE
       have hsz : wr.heap.size ≤ W.heap.size := hE.size
       have v1 := (hF 1 (by decide) (hD 1 (by kernel_rfl))).eq rfl
       have g1 := hG 1 38 rfl (Nat.le_of_ble_eq_true rfl)
       rw [v1] at g1
       go_wp2_with fail
       exact ⟨_, rfl, Below.refl _ _, VV.val rfl rfl, hZ.light (by decide) (by decide) (Below.refl _ _)⟩
     · intro ys done W aa hE hn hF hD hZ hG hO
       replace hE : Below wr.heap.size wr W := hE
       have hsz : wr.heap.size ≤ W.heap.size := hE.size
       have v2 := (hF 2 (by decide) (hD 2 (by kernel_rfl))).eq rfl
       have g2 := hG 2 39 rfl (Nat.le_of_ble_eq_true rfl)
       rw [v2] at g2
       have hAt := hbx.keep hE hbx.inside
       have pc := hAt.cell 0
       simp at pc
       clear hAt
       go_wp2_with fail
       exact ⟨_, rfl, Below.refl _ _, VV.val rfl rfl, hZ.light (by decide) (by decide) (Below.refl _ _)⟩
     · intro ys done W aa hE hn hF hD hZ hG hO
       replace hE : Below wr.heap.size wr W := hE
       have hsz : wr.heap.size ≤ W.heap.size := hE.size
       have o9 := hO 9 (by kernel_rfl)
       replace o9 : aa.tmps[9]? = some (.int .i64 k) := o9
       go_wp2_with fail
       exact ⟨_, rfl, Below.refl _ _, VV.val rfl rfl, hZ.light (by decide) (by decide) (Below.refl _ _)⟩
     · intro ys done W aa hE hn hF hD hZ hG hO
       replace hE : Below wr.heap.size wr W := hE
       have hsz : wr.heap.size ≤ W.heap.size := hE.size
       have v3 := (hF 3 (by decide) (hD 3 (by kernel_rfl))).eq rfl
       have g3 := hG 3 40 rfl (Nat.le_of_ble_eq_true rfl)
       rw [v3] at g3
       have v4 := (hF 4 (by decide) (hD 4 (by kernel_rfl))).eq rfl
       have g4 := hG 4 41 rfl (Nat.le_of_ble_eq_true rfl)
       rw [v4] at g4
       go_wp2_with fail
       exact ⟨_, rfl, Below.refl _ _, VV.val rfl rfl, hZ.light (by decide) (by decide) (Below.refl _ _)⟩
     · intro ys done W aa hE hn hF hD hZ hG hO
       replace hE : Below wr.heap.size wr W := hE
       have hsz : wr.heap.size ≤ W.heap.size := hE.size
       have v5 := (hF 5 (by decide) (hD 5 (by kernel_rfl))).eq rfl
       have g5 := hG 5 42 rfl (Nat.le_of_ble_eq_true rfl)
       rw [v5] at g5
       have z0 := (hE.cell (p := ⟨gv, ov + k * 5, none⟩) hgv).trans q0
       have z1 := (hE.cell (p := ⟨gv, ov + k * 5 + 1, none⟩) hgv).trans q1
       have z2 := (hE.cell (p := ⟨gv, ov + k * 5 + 2, none⟩) hgv).trans q2
       have z3 := (hE.cell (p := ⟨gv, ov + k * 5 + 3, none⟩) hgv).trans q3
       have z4 := (hE.cell (p := ⟨gv, ov + k * 5 + 4, none⟩) hgv).trans q4
       go_wp2_with fail
       exact ⟨_, rfl, Below.refl _ _, VV.val rfl rfl, hZ.light (by decide) (by decide) (Below.refl _ _)⟩
     · intro ys done W aa hE hn hF hD hZ hG hO
       replace hE : Below wr.heap.size wr W := hE
       have hsz : wr.heap.size ≤ W.heap.size := hE.size
       have o0 := hO 0 (by kernel_rfl)
       replace o0 : aa.tmps[0]? = some (.pointer (some ⟨p, 0, none⟩)) := o0
       go_wp2_with fail
       exact ⟨_, rfl, Below.refl _ _, VV.val rfl rfl, hZ.light (by decide) (by decide) (Below.refl _ _)⟩
     · intro ys done W aa hE hn hF hD hZ hG hO
       replace hE : Below wr.heap.size wr W := hE
       have hsz : wr.heap.size ≤ W.heap.size := hE.size
       have v7 := (hF 7 (by decide) (hD 7 (by kernel_rfl))).eq rfl
       have g7 := hG 7 44 rfl (Nat.le_of_ble_eq_true rfl)
       rw [v7] at g7
       go_wp2_with fail
       exact ⟨_, rfl, Below.refl _ _, VV.val rfl rfl, hZ.light (by decide) (by decide) (Below.refl _ _)⟩
     · intro ys done W aa hE hn hF hD hZ hG hO
       replace hE : Below wr.heap.size wr W := hE
       have hsz : wr.heap.size ≤ W.heap.size := hE.size
       have v8 := (hF 8 (by decide) (hD 8 (by kernel_rfl))).eq rfl
       have g8 := hG 8 45 rfl (Nat.le_of_ble_eq_true rfl)
       rw [v8] at g8
       go_wp2_with fail
       exact ⟨_, rfl, Below.refl _ _, VV.val rfl rfl, hZ.light (by decide) (by decide) (Below.refl _ _)⟩
     · intro ys done W aa hE hn hF hD hZ hG hO
       replace hE : Below wr.heap.size wr W := hE
       have hsz : wr.heap.size ≤ W.heap.size := hE.size
       have v9 := (hF 9 (by decide) (hD 9 (by kernel_rfl))).eq rfl
       have g9 := hG 9 46 rfl (Nat.le_of_ble_eq_true rfl)
       rw [v9] at g9
       have hAt := hbx.keep hE hbx.inside
       have pc := hAt.cell 2
       simp at pc
       clear hAt
       go_wp2_with fail
       exact ⟨_, rfl, Below.refl _ _, VV.val rfl rfl, hZ.light (by decide) (by decide) (Below.refl _ _)⟩
     · intro ys done W aa hE hn hF hD hZ hG hO
       replace hE : Below wr.heap.size wr W := hE
       have hsz : wr.heap.size ≤ W.heap.size := hE.size
       have o9 := hO 9 (by kernel_rfl)
       replace o9 : aa.tmps[9]? = some (.int .i64 k) := o9
       go_wp2_with fail
       exact ⟨_, rfl, Below.refl _ _, VV.val rfl rfl, hZ.light (by decide) (by decide) (Below.refl _ _)⟩
     · intro ys done W aa hE hn hF hD hZ hG hO
       replace hE : Below wr.heap.size wr W := hE
       have hsz : wr.heap.size ≤ W.heap.size := hE.size
       have v10 := (hF 10 (by decide) (hD 10 (by kernel_rfl))).eq rfl
       have g10 := hG 10 47 rfl (Nat.le_of_ble_eq_true rfl)
       rw [v10] at g10
       have v11 := (hF 11 (by decide) (hD 11 (by kernel_rfl))).eq rfl
       have g11 := hG 11 48 rfl (Nat.le_of_ble_eq_true rfl)
       rw [v11] at g11
       go_wp2_with fail
       exact ⟨_, rfl, Below.refl _ _, VV.val rfl rfl, hZ.light (by decide) (by decide) (Below.refl _ _)⟩
     · intro ys done W aa hE hn hF hD hZ hG hO
       replace hE : Below wr.heap.size wr W := hE
       have hsz : wr.heap.size ≤ W.heap.size := hE.size
       have v12 := (hF 12 (by decide) (hD 12 (by kernel_rfl))).eq rfl
       have g12 := hG 12 49 rfl (Nat.le_of_ble_eq_true rfl)
       rw [v12] at g12
       have z0 := (hE.cell (p := ⟨gr, k, none⟩) hgr).trans hru
       go_wp2_with fail
       exact ⟨_, rfl, Below.refl _ _, VV.val rfl rfl, hZ.light (by decide) (by decide) (Below.refl _ _)⟩
     · intro ys done W aa hE hn hF hD hZ hG hO
       replace hE : Below wr.heap.size wr W := hE
       have hsz : wr.heap.size ≤ W.heap.size := hE.size
       have o0 := hO 0 (by kernel_rfl)
       replace o0 : aa.tmps[0]? = some (.pointer (some ⟨p, 0, none⟩)) := o0
       go_wp2_with fail
       exact ⟨_, rfl, Below.refl _ _, VV.val rfl rfl, hZ.light (by decide) (by decide) (Below.refl _ _)⟩
     · intro ys done W aa hE hn hF hD hZ hG hO
       replace hE : Below wr.heap.size wr W := hE
       have hsz : wr.heap.size ≤ W.heap.size := hE.size
       have v14 := (hF 14 (by decide) (hD 14 (by kernel_rfl))).eq rfl
       have g14 := hG 14 51 rfl (Nat.le_of_ble_eq_true rfl)
       rw [v14] at g14
       go_wp2_with fail
       exact ⟨_, rfl, Below.refl _ _, VV.val rfl rfl, hZ.light (by decide) (by decide) (Below.refl _ _)⟩
     · intro ys done W aa hE hn hF hD hZ hG hO
       replace hE : Below wr.heap.size wr W := hE
       have hsz : wr.heap.size ≤ W.heap.size := hE.size
       have v15 := (hF 15 (by decide) (hD 15 (by kernel_rfl))).eq rfl
       have g15 := hG 15 52 rfl (Nat.le_of_ble_eq_true rfl)
       rw [v15] at g15
       go_wp2_with fail
       exact ⟨_, rfl, Below.refl _ _, VV.val rfl rfl, hZ.light (by decide) (by decide) (Below.refl _ _)⟩
     · intro ys done W aa hE hn hF hD hZ hG hO
       replace hE : Below wr.heap.size wr W := hE
       have hsz : wr.heap.size ≤ W.heap.size := hE.size
       have v16 := (hF 16 (by decide) (hD 16 (by kernel_rfl))).eq rfl
       have g16 := hG 16 53 rfl (Nat.le_of_ble_eq_true rfl)
       rw [v16] at g16
       have hAt := hbx.keep hE hbx.inside
       have pc := hAt.cell 1
       simp at pc
       clear hAt
       go_wp2_with fail
       exact ⟨_, rfl, Below.refl _ _, VV.val rfl rfl, hZ.light (by decide) (by decide) (Below.refl _ _)⟩
     · intro ys done W aa hE hn hF hD hZ hG hO
       replace hE : Below wr.heap.size wr W := hE
       have hsz : wr.heap.size ≤ W.heap.size := hE.size
       have o1 := hO 1 (by kernel_rfl)
       replace o1 : aa.tmps[1]? = some (.int .i64 r) := o1
       go_wp2_with fail
       exact ⟨_, rfl, Below.refl _ _, VV.val rfl rfl, hZ.light (by decide) (by decide) (Below.refl _ _)⟩
     · intro ys done W aa hE hn hF hD hZ hG hO
       replace hE : Below wr.heap.size wr W := hE
       have hsz : wr.heap.size ≤ W.heap.size := hE.size
       have v6 := (hF 6 (by decide) (hD 6 (by kernel_rfl))).eq rfl
       have g6 := hG 6 43 rfl (Nat.le_of_ble_eq_true rfl)
       rw [v6] at g6
       have v13 := (hF 13 (by decide) (hD 13 (by kernel_rfl))).eq rfl
       have g13 := hG 13 50 rfl (Nat.le_of_ble_eq_true rfl)
       rw [v13] at g13
       have v17 := (hF 17 (by decide) (hD 17 (by kernel_rfl))).eq rfl
       have g17 := hG 17 54 rfl (Nat.le_of_ble_eq_true rfl)
       rw [v17] at g17
       have v18 := (hF 18 (by decide) (hD 18 (by kernel_rfl))).eq rfl
       have g18 := hG 18 55 rfl (Nat.le_of_ble_eq_true rfl)
       rw [v18] at g18
       go_wp2_with fail
       refine (refBest_any v _ _ l S.t hl16 hnum'.out r W ((hrow'.out.keep hE (Nat.le_refl _)).more hsz) ((hT'.out.keep hE (Nat.le_refl _)).more hsz)).mono ?_
       rintro e W' ⟨rfl, hb'⟩
       rw [hEE.out, hBB.out]
       unfold encW
       replace hb' := Lib.hid hb'
       go_wp2_with fail
       exact ⟨_, rfl, hb'.out.mono hsz, VV.val rfl rfl, hZ.light (by decide) (by decide) hb'.out⟩
     · intro ys done W aa hE hn hF hD hZ hG hO
       replace hE : Below wr.heap.size wr W := hE
       have hsz : wr.heap.size ≤ W.heap.size := hE.size
       have v19 := (hF 19 (by decide) (hD 19 (by kernel_rfl))).eq rfl
       have g19 := hG 19 56 rfl (Nat.le_of_ble_eq_true rfl)
       rw [v19] at g19
       go_wp2_with fail
       exact ⟨_, rfl, Below.refl _ _, VV.val rfl rfl, hZ.light (by decide) (by decide) (Below.refl _ _)⟩
     · intro ys done W aa hE hn hF hD hZ hG hO
       replace hE : Below wr.heap.size wr W := hE
       have hsz : wr.heap.size ≤ W.heap.size := hE.size
       have v20 := (hF 20 (by decide) (hD 20 (by kernel_rfl))).eq rfl
       have g20 := hG 20 36 rfl (Nat.le_of_ble_eq_true rfl)
       rw [v20] at g20
       go_wp2_with fail
       exact ⟨_, rfl, Below.refl _ _, VV.val rfl rfl, hZ.light (by decide) (by decide) (Below.refl _ _)⟩
     · intro ys done W aa hE hn hF hD hZ hG hO
       replace hE : Below wr.heap.size wr W := hE
       have hsz : wr.heap.size ≤ W.heap.size := hE.size
       have v20 := (hF 20 (by decide) (hD 20 (by kernel_rfl))).eq rfl
       have g20 := hG 20 36 rfl (Nat.le_of_ble_eq_true rfl)
       rw [v20] at g20
       go_wp2_with fail
       exact ⟨_, rfl, Below.refl _ _, VV.val rfl rfl, hZ.light (by decide) (by decide) (Below.refl _ _)⟩
     · intro ys done W aa hE hn hF hD hZ hG hO
       replace hE : Below wr.heap.size wr W := hE
       have hsz : wr.heap.size ≤ W.heap.size := hE.size
       have hfin := Lib.hid (hZ.new (z0 := .int .i64 0) (z1 := .int .i64 0) (z2 := .int .i64 0) hn (by decide) hsz)
       clear hZ
       go_wp2_with fail
       exact ⟨_, rfl, (Below.refl _ _).alloc hsz _, VV.any rfl, hfin.out⟩
     · intro ys done W aa hE hn hF hD hZ hG hO
       replace hE : Below wr.heap.size wr W := hE
       have hsz : wr.heap.size ≤ W.heap.size := hE.size
       have v21 := (hF 21 (by decide) (hD 21 (by kernel_rfl))).eq rfl
       have g21 := hG 21 57 rfl (Nat.le_of_ble_eq_true rfl)
       rw [v21] at g21
       obtain ⟨g, c0, c1, c2, e9, hgN, hA, -⟩ := hZ.p (hD 23 (by kernel_rfl))
       have ga := hG 23 10 rfl (Nat.le_of_ble_eq_true rfl)
       rw [e9] at ga
       unfold bptr at ga
       have hfin := Lib.hid (hZ.put (v := undef) (hD 23 (by kernel_rfl)) (by decide) e9 hgN hA)
       have hAf := hA.free
       have y0 := hA.cell 0
       have y1 := hA.cell 1
       have y2 := hA.cell 2
       simp at y0 y1 y2
       have hgi := hA.inside
       clear hA hZ
       go_wp2_with fail
       exact ⟨(((Below.refl _ _).setCell (show wr.heap.size ≤ (⟨g, 0, none⟩ : Addr).block from hgN) _).setCell (show wr.heap.size ≤ (⟨g, 1, none⟩ : Addr).block from hgN) _).setCell (show wr.heap.size ≤ (⟨g, 2, none⟩ : Addr).block from hgN) _, undef, VV.any rfl, hfin.out⟩
    case hQA =>
     intro ys w6 hE hF hZ
     replace hE : Below wr.heap.size wr w6 := hE
     have v22 := (hF 22 (by decide)).eq rfl
     obtain ⟨done, hdn, hZ⟩ := hZ
     obtain ⟨g6, e6, hg6, hA6⟩ := hZ.get (hdn 24 (by decide))
     unfold bptr at e6
     simp only [List.take_succ_cons, List.take_zero, List.drop_succ_cons, List.drop_zero, Sched.fill, e6, v22]
     clear hF hZ hdn e6 v22
     go_simp
     have y2 := hA6.cell 2
     simp at y2
     have hg6i := hA6.inside
     have hB6 := Lib.hid (hbw'.out.trans (hE.mono hsz))
     clear b0 hE hbx q0 q1 q2 q3 q4 hru hA6
     cases hE0 : (E == 0)
     · have hx := Lib.hid (acc_skip (f := rbestF S r) (k := k) (by rw [hfk.out, if_neg (by simpa using hE0)]))
       go_wp2
       go_roundw
       case rel => exact ⟨k + 1, hkN.out, by go_num, by rw [hx.out, hA1'.out], by rw [hx.out, hA2'.out], hB6.out⟩
       case measure => simp [intOf]; omega
     obtain rfl : E = 0 := by simpa using hE0
     have hfs : Hid (rbestF S r k = some B.n) := Lib.hid (by rw [hfk.out, if_pos rfl])
     by_cases hA0 : A1 < 0
     · have hx := Lib.hid (acc_take hfs.out (.inl (by rw [hA1'.out]; exact hA0)))
       go_upto_region 11 with fail
       go_quiet (fail)
       go_wp2
       exact ⟨⟨k + 1, hkN.out, by go_num, by rw [hx.out], by rw [hx.out], Load.below_drewN hB6.out nq⟩, by simp [intOf]; omega⟩
     by_cases hBn : B.n < A2
     · have hx := Lib.hid (acc_take hfs.out (.inr (by rw [hA2'.out]; exact hBn)))
       go_upto_region 11 with fail
       go_quiet (fail)
       go_wp2
       exact ⟨⟨k + 1, hkN.out, by go_num, by rw [hx.out], by rw [hx.out], Load.below_drewN hB6.out nq⟩, by simp [intOf]; omega⟩
     · have hx := Lib.hid (acc_leave hfs.out (fun hc => by rw [hA1'.out, hA2'.out] at hc; omega))
       go_wp2
       go_roundw
       case rel => exact ⟨k + 1, hkN.out, by go_num, by rw [hx.out, hA1'.out], by rw [hx.out, hA2'.out], hB6.out⟩
       case measure => simp [intOf]; omega
  · obtain rfl : k = Nf := by omega
    rw [hsame.out, ← hNf.out] at hA1 hA2
    have hA1' := Lib.hid hA1
    have hA2' := Lib.hid hA2
    clear hA hbx hA1 hA2
    by_cases hA0 : A1 < 0
    · have he := Lib.hid (priceE_none hinT.out hwn.out (by rw [hA1'.out]; exact hA0))
      have hz := Lib.hid (price_no (S := S) (r := r) (by rw [he.out]; omega))
      go_wp2
      refine bodyPost_ret (v := .tuple #[.int .i64 0, .int .i64 0, .int .i64 12]) (by simp [results, Tryz.results44, go_sem]) rfl ?_
      exact ⟨ret_price hz.out.1.symm hz.out.2.symm he.out.symm, hbw⟩
    · have he := Lib.hid (priceE_ok hinT.out hwn.out (by rw [hA1'.out]; exact hA0))
      have hz := Lib.hid (price_yes he.out)
      go_wp2
      refine bodyPost_ret (v := .tuple #[.int .i64 A1, .int .i64 A2, .int .i64 0]) (by simp [results, Tryz.results44, go_sem]) rfl ?_
      exact ⟨ret_price (by rw [hz.out.1, hA1'.out]) (by rw [hz.out.2, hA2'.out]) he.out.symm, hbw⟩
end Go.Proofs.YtlbghdiebjldjaaGreatDoor.Plan

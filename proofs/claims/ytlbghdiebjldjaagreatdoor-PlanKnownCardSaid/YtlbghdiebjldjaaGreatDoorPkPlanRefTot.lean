import Derived.Test.YtlbghdiebjldjaaGreatDoorPkWhenRefTimes
import Derived.Test.YtlbghdiebjldjaaGreatDoorPkPlanKeys

namespace Go.Proofs.YtlbghdiebjldjaaGreatDoor.Plan
open Go.RowKit Go.Sort Go.Proofs.YtlbghdiebjldjaaGreatDoor.Mem Go.Proofs.YtlbghdiebjldjaaGreatDoor.Route Go.Proofs.YtlbghdiebjldjaaGreatDoor.When Go.Proofs.YtlbghdiebjldjaaGreatDoor.Load Go.Proofs.YtlbghdiebjldjaaGreatDoor.Ins Go.Proofs.YtlbghdiebjldjaaGreatDoor.Cheap Go.Proofs.YtlbghdiebjldjaaGreatDoor.Feas
set_option linter.unusedVariables false
def totK (S : St) (k : Nat) : Int := totR S.t (S.vs.take k) (S.rows.take k)
theorem totR_snoc (t : List Rq) (v : Vh) (l : List (Int × Int)) : ∀ (vs : List Vh) (ls : List (List (Int × Int))), vs.length = ls.length → totR t (vs ++ [v]) (ls ++ [l]) = totR t vs ls + (homeT v l t - v.st)
 | [], [], _ => by simp [totR]
 | [], _ :: _, h => by simp at h
 | _ :: _, [], h => by simp at h
 | v0 :: vs, l0 :: ls, h => by
  have := totR_snoc t v l vs ls (by simpa using h)
  simp [totR, this]
  omega
theorem totK_next {S : St} {k : Nat} {v : Vh} {l : List (Int × Int)} (hv : S.vs[k]? = some v) (hl : S.rows[k]? = some l) : totK S (k + 1) = totK S k + homeT v l S.t - v.st := by
 unfold totK
 have h1 := (List.getElem?_eq_some_iff.1 hv).1
 have h2 := (List.getElem?_eq_some_iff.1 hl).1
 rw [List.take_add_one, List.take_add_one, hv, hl]
 show totR S.t (S.vs.take k ++ [v]) (S.rows.take k ++ [l]) = _
 rw [totR_snoc S.t v l _ _ (by simp; omega)]
 omega
theorem totK_zero (S : St) : totK S 0 = 0 := by simp [totK, totR]
theorem totK_all {S : St} (h : Ok S) {k : Nat} (hk : k = S.vs.length) : totK S k = totS S := by
 unfold totK totS
 rw [List.take_of_length_le (by omega), List.take_of_length_le (by rw [h.len]; omega)]
theorem Ok.stb {S : St} (h : Ok S) {i : Nat} {v : Vh} (hv : S.vs[i]? = some v) : 0 ≤ v.st ∧ v.st ≤ 1048576 := by
 have hi := (List.getElem?_eq_some_iff.1 hv).1
 have hr : i < S.rows.length := by rw [h.len]; exact hi
 have hl : S.rows[i]? = some S.rows[i] := List.getElem?_eq_getElem hr
 have hc := (h.dr i v _ hv hl).1.hv
 unfold Vh.chk at hc
 rw [Order.veh_iff] at hc
 exact hc.2.2.1
theorem totK_bd {S : St} (h : Ok S) : ∀ k, k ≤ S.vs.length → -(1048576 * k) ≤ totK S k ∧ totK S k ≤ 3000000 * k
 | 0, _ => by rw [totK_zero]; omega
 | k + 1, hk => by
  have ih := totK_bd h k (by omega)
  have hv : S.vs[k]? = some S.vs[k] := List.getElem?_eq_getElem (by omega)
  have hr : k < S.rows.length := by rw [h.len]; omega
  have hl : S.rows[k]? = some S.rows[k] := List.getElem?_eq_getElem hr
  rw [totK_next hv hl]
  have h1 := h.stb hv
  have h2 := homeT_bd S.vs[k] S.rows[k] S.t
  omega
set_option maxRecDepth 100000 in
set_option maxHeartbeats 8000000 in
theorem refTotal_any {D : Nat → Prop} {lo : Nat} {p gr : Nat} {vf vt : Value} {cap : Nat} {us : List Value} {S : St} (w : World) (h : RefAt D lo w p gr vf vt cap us S) (ho : Ok S) :
 Calls Tryz.prog 46 #[.pointer (some ⟨p, 0, none⟩)] w fun e w' => e = .returned (.int .i64 (totS S)) ∧ Below w.heap.size w w' := by
 obtain ⟨xt, Nt, ct, rfl, hNt0, htc1, htc2, -⟩ := Rqs.opened (show Rqs w.heap.size w vt S.t from h.t.1)
 obtain ⟨xf, Nf, cf, rfl, hNf0, hfc1, hfc2, -⟩ := Vhs.opened (show Vhs w.heap.size w vf S.vs from h.vs.1)
 obtain ⟨hc1, hc2⟩ := h.bd
 have hN0 : S.rows.length = Nf := by rw [ho.len]; exact hNf0
 unfold maxLen at htc2 hfc2 hc2
 have hNf4 : Nf ≤ 4 := by rw [← hNf0]; exact ho.cnt.2
 have hbx := h.box
 rw [hN0] at hbx hc1
 have b0 := hbx.cell 0
 simp at b0
 have hp := h.box.inside
 have h' := Lib.hid h
 have ho' := Lib.hid ho
 have hbx' := Lib.hid hbx
 have hNf := Lib.hid hNf0
 have hN := Lib.hid hN0
 clear h ho hNt0 hNf0 hN0 hbx
 go_enter Tryz.func46, Tryz.ntmps46
 go_wp2
 go_loopw [3, 4] (fun n i wr => ∃ k : Nat, k ≤ Nf ∧ i = .int .i64 k ∧ n = .int .i64 (totK S k) ∧ Below w.heap.size w wr)
  (fun _ c _ => Nf - (intOf c).toNat)
 case atStart => exact ⟨0, Nat.zero_le _, rfl, by rw [totK_zero], Below.refl _ _⟩
 case round =>
  obtain ⟨k, hk, rfl, rfl, hbw⟩ := hrel
  have hA := h'.out.on hbw
  have hbx := hbx'.out.keep hbw hbx'.out.inside
  clear b0
  have b0 := hbx.cell 0
  simp at b0
  have hpw := hbx.inside
  by_cases hlt : k < Nf
  · obtain ⟨v, hv⟩ : ∃ v, S.vs[k]? = some v := ⟨S.vs[k]'(by rw [hNf.out]; exact hlt), List.getElem?_eq_getElem _⟩
    obtain ⟨l, hl⟩ : ∃ l, S.rows[k]? = some l := ⟨S.rows[k]'(by rw [hN.out]; exact hlt), List.getElem?_eq_getElem _⟩
    obtain ⟨gv, ov, rfl, hgv, q0, q1, q2, q3, q4⟩ := Vhs.at (show Vhs wr.heap.size wr (.slice xf Nf cf) S.vs from hA.vs.1) hv
    obtain ⟨u, hu, hru, hrow⟩ := hA.at_ hl
    have hgr := hA.grIn
    obtain ⟨hd, he, -, hnum⟩ := ho'.out.dr k v l hv hl
    have hnx := Lib.hid (totK_next hv hl)
    have hbd := totK_bd ho'.out k (by rw [hNf.out]; omega)
    have hst := ho'.out.stb hv
    have hhb := homeT_bd v l S.t
    have hl16 : l.length ≤ 1000000 := by have := hd.hn; omega
    have hkF : (k : Int) < (Nf : Int) := by omega
    have hkN := Lib.hid hlt
    obtain ⟨H, hH⟩ : ∃ H, homeT v l S.t = H := ⟨_, rfl⟩
    rw [hH] at hnx hhb
    have hH' := Lib.hid hH
    obtain ⟨xu, Nu, cu, rfl, -⟩ := hrow.opened
    have hrow' := Lib.hid hrow
    have hT' : Hid (Rqs wr.heap.size wr (.slice xt Nt ct) S.t) := Lib.hid hA.t.1
    have hbw' := Lib.hid hbw
    have hsz := hbw.size
    have hnum' := Lib.hid hnum
    have hA' := Lib.hid hA
    have hkk : k ≤ 4 := by omega
    have hb1 : -(1048576 * 4) ≤ totK S k ∧ totK S k ≤ 3000000 * 4 := by omega
    obtain ⟨n0, hn0⟩ : ∃ n, totK S k = n := ⟨_, rfl⟩
    rw [hn0] at hb1 hnx ⊢
    clear hv hl hu hrow hd he hnum hbw hH hbd hA hn0
    go_upto_region 5 with fail
    refine Sched.wp_region_sched 25 (fun W W' => Below W.heap.size W W') (VK [.val (.pointer (some ⟨p, 0, none⟩)), .val (.pointer (some ⟨p, 0, none⟩)), .val (.pointer (some ⟨p, 0, none⟩)), .val (.slice (some ⟨gv, ov, none⟩) Nf cf), .val (.int .i64 k), .val (.pointer (some ⟨gv, ov + k * 5, none⟩)), .val (.agg #[.int .i64 v.hx, .int .i64 v.hy, .int .i64 v.cp, .int .i64 v.st, .int .i64 v.en]), .val (.pointer (some ⟨p, 0, none⟩)), .val (.pointer (some ⟨p, 0, none⟩)), .val (.pointer (some ⟨p, 2, none⟩)), .val (.slice (some ⟨gr, 0, none⟩) Nf cap), .val (.int .i64 k), .val (.pointer (some ⟨gr, k, none⟩)), .val (.slice xu Nu cu), .val (.pointer (some ⟨p, 0, none⟩)), .val (.pointer (some ⟨p, 0, none⟩)), .val (.pointer (some ⟨p, 1, none⟩)), .val (.slice xt Nt ct), .of (fun x _ => ∃ y M d E, x = .tuple #[.slice y M d, .int .i64 H, .int .i64 E]) (fun h _ => h), .of (fun x _ => ∃ y M d E, x = .tuple #[.slice y M d, .int .i64 H, .int .i64 E]) (fun h _ => h), .of (fun _ _ => True) (fun _ _ => trivial), .val (.int .i64 H), .of (fun _ _ => True) (fun _ _ => trivial), .of (fun _ _ => True) (fun _ _ => trivial), .val (.int .i64 H)]) (fun _ _ _ => True) (by kernel_rfl) (by kernel_rfl) (by kernel_rfl) (fun h1 h2 => belowTr h1 h2) (fun h1 h2 => VK.keep h1 h2) (Below.refl _ _).drew (fun _ => trivial) (Sched.StepsA.steps (by kernel_rfl) ?hSA) ?hQA
    case hSA =>
     simp only [List.take_succ_cons, List.take_zero]
     refine ⟨?_, ?_, ?_, ?_, ?_, ?_, ?_, ?_, ?_, ?_, ?_, ?_, ?_, ?_, ?_, ?_, ?_, ?_, ?_, ?_, ?_, ?_, ?_, ?_, ?_, trivial⟩
     · intro ys done W aa hE hn hF hD hZ hG hO
       replace hE : Below wr.heap.size wr W := hE
       have o0 := hO 0 (by kernel_rfl)
       replace o0 : aa.tmps[0]? = some (.pointer (some ⟨p, 0, none⟩)) := o0
       go_wp2_with fail
       first | exact ⟨_, rfl, Below.refl _ _, VK.val rfl rfl, trivial⟩ | exact ⟨_, rfl, Below.refl _ _, VK.val rfl rfl⟩
     · intro ys done W aa hE hn hF hD hZ hG hO
       replace hE : Below wr.heap.size wr W := hE
       have v0 := (hF 0 (by decide) (hD 0 (by kernel_rfl))).eq rfl
       have g0 := hG 0 18 rfl (Nat.le_of_ble_eq_true rfl)
       rw [v0] at g0
       go_wp2_with fail
       first | exact ⟨_, rfl, Below.refl _ _, VK.val rfl rfl, trivial⟩ | exact ⟨_, rfl, Below.refl _ _, VK.val rfl rfl⟩
     · intro ys done W aa hE hn hF hD hZ hG hO
       replace hE : Below wr.heap.size wr W := hE
       have v1 := (hF 1 (by decide) (hD 1 (by kernel_rfl))).eq rfl
       have g1 := hG 1 19 rfl (Nat.le_of_ble_eq_true rfl)
       rw [v1] at g1
       go_wp2_with fail
       first | exact ⟨_, rfl, Below.refl _ _, VK.val rfl rfl, trivial⟩ | exact ⟨_, rfl, Below.refl _ _, VK.val rfl rfl⟩
     · intro ys done W aa hE hn hF hD hZ hG hO
       replace hE : Below wr.heap.size wr W := hE
       have v2 := (hF 2 (by decide) (hD 2 (by kernel_rfl))).eq rfl
       have g2 := hG 2 20 rfl (Nat.le_of_ble_eq_true rfl)
       rw [v2] at g2
       have hAt := hbx.keep hE hbx.inside
       have pc := hAt.cell 0
       simp at pc
       clear hAt
       go_wp2_with fail
       first | exact ⟨_, rfl, Below.refl _ _, VK.val rfl rfl, trivial⟩ | exact ⟨_, rfl, Below.refl _ _, VK.val rfl rfl⟩
     · intro ys done W aa hE hn hF hD hZ hG hO
       replace hE : Below wr.heap.size wr W := hE
       have o4 := hO 4 (by kernel_rfl)
       replace o4 : aa.tmps[4]? = some (.int .i64 k) := o4
       go_wp2_with fail
       first | exact ⟨_, rfl, Below.refl _ _, VK.val rfl rfl, trivial⟩ | exact ⟨_, rfl, Below.refl _ _, VK.val rfl rfl⟩
     · intro ys done W aa hE hn hF hD hZ hG hO
       replace hE : Below wr.heap.size wr W := hE
       have v3 := (hF 3 (by decide) (hD 3 (by kernel_rfl))).eq rfl
       have g3 := hG 3 21 rfl (Nat.le_of_ble_eq_true rfl)
       rw [v3] at g3
       have v4 := (hF 4 (by decide) (hD 4 (by kernel_rfl))).eq rfl
       have g4 := hG 4 22 rfl (Nat.le_of_ble_eq_true rfl)
       rw [v4] at g4
       go_wp2_with fail
       first | exact ⟨_, rfl, Below.refl _ _, VK.val rfl rfl, trivial⟩ | exact ⟨_, rfl, Below.refl _ _, VK.val rfl rfl⟩
     · intro ys done W aa hE hn hF hD hZ hG hO
       replace hE : Below wr.heap.size wr W := hE
       have v5 := (hF 5 (by decide) (hD 5 (by kernel_rfl))).eq rfl
       have g5 := hG 5 23 rfl (Nat.le_of_ble_eq_true rfl)
       rw [v5] at g5
       have z0 := (hE.cell (p := ⟨gv, ov + k * 5, none⟩) hgv).trans q0
       have z1 := (hE.cell (p := ⟨gv, ov + k * 5 + 1, none⟩) hgv).trans q1
       have z2 := (hE.cell (p := ⟨gv, ov + k * 5 + 2, none⟩) hgv).trans q2
       have z3 := (hE.cell (p := ⟨gv, ov + k * 5 + 3, none⟩) hgv).trans q3
       have z4 := (hE.cell (p := ⟨gv, ov + k * 5 + 4, none⟩) hgv).trans q4
       go_wp2_with fail
       first | exact ⟨_, rfl, Below.refl _ _, VK.val rfl rfl, trivial⟩ | exact ⟨_, rfl, Below.refl _ _, VK.val rfl rfl⟩
     · intro ys done W aa hE hn hF hD hZ hG hO
       replace hE : Below wr.heap.size wr W := hE
       have o0 := hO 0 (by kernel_rfl)
       replace o0 : aa.tmps[0]? = some (.pointer (some ⟨p, 0, none⟩)) := o0
       go_wp2_with fail
       first | exact ⟨_, rfl, Below.refl _ _, VK.val rfl rfl, trivial⟩ | exact ⟨_, rfl, Below.refl _ _, VK.val rfl rfl⟩
     · intro ys done W aa hE hn hF hD hZ hG hO
       replace hE : Below wr.heap.size wr W := hE
       have v7 := (hF 7 (by decide) (hD 7 (by kernel_rfl))).eq rfl
       have g7 := hG 7 25 rfl (Nat.le_of_ble_eq_true rfl)
       rw [v7] at g7
       go_wp2_with fail
       first | exact ⟨_, rfl, Below.refl _ _, VK.val rfl rfl, trivial⟩ | exact ⟨_, rfl, Below.refl _ _, VK.val rfl rfl⟩
     · intro ys done W aa hE hn hF hD hZ hG hO
       replace hE : Below wr.heap.size wr W := hE
       have v8 := (hF 8 (by decide) (hD 8 (by kernel_rfl))).eq rfl
       have g8 := hG 8 26 rfl (Nat.le_of_ble_eq_true rfl)
       rw [v8] at g8
       go_wp2_with fail
       first | exact ⟨_, rfl, Below.refl _ _, VK.val rfl rfl, trivial⟩ | exact ⟨_, rfl, Below.refl _ _, VK.val rfl rfl⟩
     · intro ys done W aa hE hn hF hD hZ hG hO
       replace hE : Below wr.heap.size wr W := hE
       have v9 := (hF 9 (by decide) (hD 9 (by kernel_rfl))).eq rfl
       have g9 := hG 9 27 rfl (Nat.le_of_ble_eq_true rfl)
       rw [v9] at g9
       have hAt := hbx.keep hE hbx.inside
       have pc := hAt.cell 2
       simp at pc
       clear hAt
       go_wp2_with fail
       first | exact ⟨_, rfl, Below.refl _ _, VK.val rfl rfl, trivial⟩ | exact ⟨_, rfl, Below.refl _ _, VK.val rfl rfl⟩
     · intro ys done W aa hE hn hF hD hZ hG hO
       replace hE : Below wr.heap.size wr W := hE
       have o4 := hO 4 (by kernel_rfl)
       replace o4 : aa.tmps[4]? = some (.int .i64 k) := o4
       go_wp2_with fail
       first | exact ⟨_, rfl, Below.refl _ _, VK.val rfl rfl, trivial⟩ | exact ⟨_, rfl, Below.refl _ _, VK.val rfl rfl⟩
     · intro ys done W aa hE hn hF hD hZ hG hO
       replace hE : Below wr.heap.size wr W := hE
       have v10 := (hF 10 (by decide) (hD 10 (by kernel_rfl))).eq rfl
       have g10 := hG 10 28 rfl (Nat.le_of_ble_eq_true rfl)
       rw [v10] at g10
       have v11 := (hF 11 (by decide) (hD 11 (by kernel_rfl))).eq rfl
       have g11 := hG 11 29 rfl (Nat.le_of_ble_eq_true rfl)
       rw [v11] at g11
       go_wp2_with fail
       first | exact ⟨_, rfl, Below.refl _ _, VK.val rfl rfl, trivial⟩ | exact ⟨_, rfl, Below.refl _ _, VK.val rfl rfl⟩
     · intro ys done W aa hE hn hF hD hZ hG hO
       replace hE : Below wr.heap.size wr W := hE
       have v12 := (hF 12 (by decide) (hD 12 (by kernel_rfl))).eq rfl
       have g12 := hG 12 30 rfl (Nat.le_of_ble_eq_true rfl)
       rw [v12] at g12
       have z0 := (hE.cell (p := ⟨gr, k, none⟩) hgr).trans hru
       go_wp2_with fail
       first | exact ⟨_, rfl, Below.refl _ _, VK.val rfl rfl, trivial⟩ | exact ⟨_, rfl, Below.refl _ _, VK.val rfl rfl⟩
     · intro ys done W aa hE hn hF hD hZ hG hO
       replace hE : Below wr.heap.size wr W := hE
       have o0 := hO 0 (by kernel_rfl)
       replace o0 : aa.tmps[0]? = some (.pointer (some ⟨p, 0, none⟩)) := o0
       go_wp2_with fail
       first | exact ⟨_, rfl, Below.refl _ _, VK.val rfl rfl, trivial⟩ | exact ⟨_, rfl, Below.refl _ _, VK.val rfl rfl⟩
     · intro ys done W aa hE hn hF hD hZ hG hO
       replace hE : Below wr.heap.size wr W := hE
       have v14 := (hF 14 (by decide) (hD 14 (by kernel_rfl))).eq rfl
       have g14 := hG 14 32 rfl (Nat.le_of_ble_eq_true rfl)
       rw [v14] at g14
       go_wp2_with fail
       first | exact ⟨_, rfl, Below.refl _ _, VK.val rfl rfl, trivial⟩ | exact ⟨_, rfl, Below.refl _ _, VK.val rfl rfl⟩
     · intro ys done W aa hE hn hF hD hZ hG hO
       replace hE : Below wr.heap.size wr W := hE
       have v15 := (hF 15 (by decide) (hD 15 (by kernel_rfl))).eq rfl
       have g15 := hG 15 33 rfl (Nat.le_of_ble_eq_true rfl)
       rw [v15] at g15
       go_wp2_with fail
       first | exact ⟨_, rfl, Below.refl _ _, VK.val rfl rfl, trivial⟩ | exact ⟨_, rfl, Below.refl _ _, VK.val rfl rfl⟩
     · intro ys done W aa hE hn hF hD hZ hG hO
       replace hE : Below wr.heap.size wr W := hE
       have v16 := (hF 16 (by decide) (hD 16 (by kernel_rfl))).eq rfl
       have g16 := hG 16 34 rfl (Nat.le_of_ble_eq_true rfl)
       rw [v16] at g16
       have hAt := hbx.keep hE hbx.inside
       have pc := hAt.cell 1
       simp at pc
       clear hAt
       go_wp2_with fail
       first | exact ⟨_, rfl, Below.refl _ _, VK.val rfl rfl, trivial⟩ | exact ⟨_, rfl, Below.refl _ _, VK.val rfl rfl⟩
     · intro ys done W aa hE hn hF hD hZ hG hO
       replace hE : Below wr.heap.size wr W := hE
       have v6 := (hF 6 (by decide) (hD 6 (by kernel_rfl))).eq rfl
       have g6 := hG 6 24 rfl (Nat.le_of_ble_eq_true rfl)
       rw [v6] at g6
       have v13 := (hF 13 (by decide) (hD 13 (by kernel_rfl))).eq rfl
       have g13 := hG 13 31 rfl (Nat.le_of_ble_eq_true rfl)
       rw [v13] at g13
       have v17 := (hF 17 (by decide) (hD 17 (by kernel_rfl))).eq rfl
       have g17 := hG 17 35 rfl (Nat.le_of_ble_eq_true rfl)
       rw [v17] at g17
       go_wp2_with fail
       refine (refTimes_any v _ _ l S.t hl16 hnum'.out W (hrow'.out.on hE) (hT'.out.on hE)).mono ?_
       rintro e W' ⟨⟨u9, rfl, hu9⟩, hb'⟩
       obtain ⟨y9, M9, d9, rfl, -⟩ := hu9.opened
       rw [hH'.out]
       replace hb' := Lib.hid hb'
       go_wp2_with fail
       first | exact ⟨_, rfl, hb'.out, VK.of rfl ⟨_, _, _, _, rfl⟩, trivial⟩ | exact ⟨_, rfl, hb'.out, VK.of rfl ⟨_, _, _, _, rfl⟩⟩
     · intro ys done W aa hE hn hF hD hZ hG hO
       replace hE : Below wr.heap.size wr W := hE
       have v18 := (hF 18 (by decide) (hD 18 (by kernel_rfl))).get rfl
       have g18 := hG 18 36 rfl (Nat.le_of_ble_eq_true rfl)
       go_wp2_with fail
       first | exact ⟨_, rfl, Below.refl _ _, VK.of rfl v18, trivial⟩ | exact ⟨_, rfl, Below.refl _ _, VK.of rfl v18⟩
     · intro ys done W aa hE hn hF hD hZ hG hO
       replace hE : Below wr.heap.size wr W := hE
       have v19 := (hF 19 (by decide) (hD 19 (by kernel_rfl))).get rfl
       have g19 := hG 19 17 rfl (Nat.le_of_ble_eq_true rfl)
       obtain ⟨y9, M9, d9, E9, e9⟩ := v19
       rw [e9] at g19
       go_wp2_with fail
       first | exact ⟨_, rfl, Below.refl _ _, VK.of rfl trivial, trivial⟩ | exact ⟨_, rfl, Below.refl _ _, VK.of rfl trivial⟩
     · intro ys done W aa hE hn hF hD hZ hG hO
       replace hE : Below wr.heap.size wr W := hE
       have v19 := (hF 19 (by decide) (hD 19 (by kernel_rfl))).get rfl
       have g19 := hG 19 17 rfl (Nat.le_of_ble_eq_true rfl)
       obtain ⟨y9, M9, d9, E9, e9⟩ := v19
       rw [e9] at g19
       go_wp2_with fail
       first | exact ⟨_, rfl, Below.refl _ _, VK.val rfl rfl, trivial⟩ | exact ⟨_, rfl, Below.refl _ _, VK.val rfl rfl⟩
     · intro ys done W aa hE hn hF hD hZ hG hO
       replace hE : Below wr.heap.size wr W := hE
       have v19 := (hF 19 (by decide) (hD 19 (by kernel_rfl))).get rfl
       have g19 := hG 19 17 rfl (Nat.le_of_ble_eq_true rfl)
       obtain ⟨y9, M9, d9, E9, e9⟩ := v19
       rw [e9] at g19
       go_wp2_with fail
       first | exact ⟨_, rfl, Below.refl _ _, VK.of rfl trivial, trivial⟩ | exact ⟨_, rfl, Below.refl _ _, VK.of rfl trivial⟩
     · intro ys done W aa hE hn hF hD hZ hG hO
       replace hE : Below wr.heap.size wr W := hE
       have v20 := (hF 20 (by decide) (hD 20 (by kernel_rfl))).get rfl
       have g20 := hG 20 37 rfl (Nat.le_of_ble_eq_true rfl)
       go_wp2_with fail
       first | exact ⟨_, rfl, Below.refl _ _, VK.of rfl trivial, trivial⟩ | exact ⟨_, rfl, Below.refl _ _, VK.of rfl trivial⟩
     · intro ys done W aa hE hn hF hD hZ hG hO
       replace hE : Below wr.heap.size wr W := hE
       have v21 := (hF 21 (by decide) (hD 21 (by kernel_rfl))).eq rfl
       have g21 := hG 21 38 rfl (Nat.le_of_ble_eq_true rfl)
       rw [v21] at g21
       go_wp2_with fail
       first | exact ⟨_, rfl, Below.refl _ _, VK.val rfl rfl, trivial⟩ | exact ⟨_, rfl, Below.refl _ _, VK.val rfl rfl⟩
    case hQA =>
     intro ys w6 hE hF _
     replace hE : Below wr.heap.size wr w6 := hE
     have v24 := (hF 24 (by decide)).eq rfl
     simp only [List.take_succ_cons, List.take_zero, List.drop_succ_cons, List.drop_zero, Sched.fill, v24]
     clear hF v24
     go_simp
     have hbx6 := hbx.keep hE hbx.inside
     have z3 := (hE.cell (p := ⟨gv, ov + k * 5 + 3, none⟩) hgv).trans q3
     have b6 := hbx6.cell 0
     simp at b6
     have hp6 := hbx6.inside
     have hB6 := Lib.hid (hbw'.out.trans (hE.mono hsz))
     have hgv6 : gv < w6.heap.size := Nat.lt_of_lt_of_le hgv hE.size
     clear b0 hE hbx hbx6 q0 q1 q2 q3 q4 hru
     go_wp2
     go_roundw
     case rel => exact ⟨k + 1, hkN.out, by go_num, by rw [hnx.out], hB6.out⟩
     case measure => simp [intOf]; omega
  · obtain rfl : k = Nf := by omega
    have he := Lib.hid (totK_all ho'.out hNf.out.symm)
    clear hA hbx
    go_wp2
    go_ret
    exact ⟨Route.ret_int he.out, hbw⟩
end Go.Proofs.YtlbghdiebjldjaaGreatDoor.Plan

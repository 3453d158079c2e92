import Derived.Test.YtlbghdiebjldjaaGreatDoorPkPlanPRead

namespace Go.Proofs.YtlbghdiebjldjaaGreatDoor.Plan
open Go.RowKit Go.Sort Go.Proofs.YtlbghdiebjldjaaGreatDoor.Mem Go.Proofs.YtlbghdiebjldjaaGreatDoor.Route Go.Proofs.YtlbghdiebjldjaaGreatDoor.When Go.Proofs.YtlbghdiebjldjaaGreatDoor.Load Go.Proofs.YtlbghdiebjldjaaGreatDoor.Ins Go.Proofs.YtlbghdiebjldjaaGreatDoor.Cheap Go.Proofs.YtlbghdiebjldjaaGreatDoor.Feas
set_option linter.unusedVariables false
structure LikeAt (M : Nat) (W : World) (p gt gm : Nat) (vt : Value) (cap : Nat) (us : List Value) (k : Nat) (S : St) : Prop where
 box : At W p 83 #[.slice (some ⟨gt, 0, none⟩) S.vs.length cap, vt, .map (some gm)]
 pM : M ≤ p
 ot : W.ownsRow M 72 10 vt S.t.length (flatQ S.t)
 own : W.ownsRow M 86 6 (.slice (some ⟨gt, 0, none⟩) S.vs.length cap) S.vs.length (toursF S.vs us)
 ulen : us.length = S.vs.length
 rows : ∀ (i : Nat) u l, i < k → us[i]? = some u → S.rows[i]? = some l → W.ownsRow M 75 2 u l.length (flatS l)
 map : MapAt W gm 1000 (whO S)
 mM : M ≤ gm
section
variable {M : Nat} {W W' : World} {p gt gm : Nat} {vt : Value} {cap : Nat} {us : List Value} {k : Nat} {S : St}
theorem LikeAt.on (h : LikeAt M W p gt gm vt cap us k S) (hb : Below W.heap.size W W') : LikeAt M W' p gt gm vt cap us k S :=
 ⟨h.box.keep hb h.box.inside, h.pM, owns_below h.ot hb, owns_below h.own hb, h.ulen, fun i u l hi hu hl => owns_below (h.rows i u l hi hu hl) hb, h.map.same (hb.block gm h.map.inside), h.mM⟩
theorem LikeAt.gtIn (h : LikeAt M W p gt gm vt cap us k S) : M ≤ gt ∧ gt < W.heap.size := World.ownsRow.lt h.own gt rfl
theorem LikeAt.put (h : LikeAt M W p gt gm vt cap us k S) (hk : k < S.vs.length) {u : Value} {l : List (Int × Int)} (hl : S.rows[k]? = some l) (hu : W.ownsRow M 75 2 u l.length (flatS l)) :
 LikeAt M (W.setCell ⟨gt, k * 6 + 5, none⟩ u) p gt gm vt cap (us.set k u) (k + 1) S := by
 have hc : Chg (fun k => k = gt) W (W.setCell ⟨gt, k * 6 + 5, none⟩ u) := Chg.set (D := fun k => k = gt) W (g := gt) rfl (k * 6 + 5) u
 have hlu : k < us.length := by rw [h.ulen]; exact hk
 have hoff : ∀ {v : Value} {e : TypeId} {size n : Nat} {xs : List Value}, W.ownsRow M e size v n xs → e ≠ 86 → Off (fun k => k = gt) v := fun h1 hne g e he => own_ne h1 h.own hne g e (by rw [he]; rfl)
 refine ⟨hc.at_ h.box (fun e => own_at_ne h.box h.own (by decide) (by rw [e]; rfl)), h.pM, hc.owns h.ot (hoff h.ot (by decide)), ?_, by simpa using h.ulen, fun i u' l' hi hu' hl' => ?_, h.map.same (hc.block gm h.map.inside (fun e => own_map_ne h.own h.map (by rw [e]; rfl))), h.mM⟩
 · have := (h.own.stored (k * 6 + 5) u).1
   rw [toursF_set u hk hlu] at this
   exact this
 · rcases set_get hlu hu' with ⟨rfl, rfl⟩ | ⟨hj, h1⟩
   · obtain rfl : l = l' := Option.some.inj (hl.symm.trans hl')
     exact hc.owns hu (hoff hu (by decide))
   · have h2 := h.rows i u' l' (by omega) h1 hl'
     exact hc.owns h2 (hoff h2 (by decide))
theorem LikeAt.cells (h : LikeAt M W p gt gm vt cap us k S) {i : Nat} {v : Vh} (hv : S.vs[i]? = some v) : ∃ u, us[i]? = some u ∧ W.cell? ⟨gt, i * 6 + 5, none⟩ = some u := by
 have hi := (List.getElem?_eq_some_iff.1 hv).1
 have hu : us[i]? = some (us[i]'(by rw [h.ulen]; exact hi)) := List.getElem?_eq_getElem _
 refine ⟨_, hu, ?_⟩
 rw [h.own.cellAt (i * 6 + 5) (by omega)]
 exact toursF_get hv hu 5 _ rfl
end
set_option maxRecDepth 100000 in
set_option maxHeartbeats 8000000 in
theorem Copy_any {D G : Nat → Prop} {p : Nat} {S : St} (w : World) (h : PlanAt D G w p S) (ho : Ok S) :
 Calls Tryz.prog 14 #[.pointer (some ⟨p, 0, none⟩)] w fun e w' => (∃ p2, e = .returned (.pointer (some ⟨p2, 0, none⟩)) ∧ ∃ D' G2, PlanAt D' G2 w' p2 S ∧ Grew D D' w w' ∧ ∀ k, G2 k → w.heap.size ≤ k) ∧ Below w.heap.size w w' := by
 obtain ⟨gt, gm, vt, cap, us, h⟩ := h
 obtain ⟨xt, Nt, ct, rfl, hNt0, htc1, htc2, ht0⟩ := Rqs.opened (show Rqs w.heap.size w vt S.t from h.t.1)
 have hpl : Plain (.slice xt Nt ct) := rqs_plainP (show Rqs w.heap.size w (.slice xt Nt ct) S.t from h.t.1)
 obtain ⟨hc1, hc2⟩ := h.bd
 unfold maxLen at htc2 hc2
 obtain ⟨N, hN0⟩ : ∃ N, S.vs.length = N := ⟨_, rfl⟩
 have hN4 : N ≤ 4 ∧ 1 ≤ N := by rw [← hN0]; exact ⟨ho.cnt.2, ho.cnt.1⟩
 have hbx := h.box
 rw [hN0] at hbx hc1
 have b0 := hbx.cell 0
 have b1 := hbx.cell 1
 have b2 := hbx.cell 2
 simp at b0 b1 b2
 have hp := h.box.inside
 have h1u : ∀ u ∈ us, u.oneCell' = true := fun u hu => by
  obtain ⟨i, hi, e⟩ := List.getElem_of_mem hu
  have hiv : i < S.rows.length := by rw [ho.len, ← h.ulen]; exact hi
  have hr := (h.rows i u S.rows[i] (by rw [← e]; exact List.getElem?_eq_getElem hi) (List.getElem?_eq_getElem hiv)).1
  obtain ⟨x, n, c, rfl, -⟩ := Row.opened (show Row w.heap.size w u _ from hr)
  rfl
 have hone := Lib.hid (toursF_one (vs := S.vs) h1u)
 have hplQ := Lib.hid hpl
 obtain ⟨M, hM⟩ : ∃ M, w.heap.size = M := ⟨_, rfl⟩
 have hM' := Lib.hid hM
 have h' := Lib.hid h
 have ho' := Lib.hid ho
 have hbx' := Lib.hid hbx
 have hN := Lib.hid hN0
 have hNt := Lib.hid hNt0
 have htl : Nt ≤ 1000 := by rw [← hNt0]; exact ho.tl
 clear h ho hN0 hbx hM h1u hNt0 ht0 hpl
 go_enter Tryz.func14, Tryz.ntmps14
 go_upto_region 3 with fail
 refine Sched.wp_region_sched 17 (fun W W' => Below W.heap.size W W') (VK [.val (.pointer (some ⟨p, 0, none⟩)), .val (.pointer (some ⟨p, 0, none⟩)), .val (.pointer (some ⟨p, 0, none⟩)), .val (.slice (some ⟨gt, 0, none⟩) N cap), .of (fun v w2 => (∃ g c, v = .slice (some ⟨g, 0, none⟩) N c) ∧ w2.ownsRow w.heap.size 86 6 v N (toursF S.vs us)) (fun ⟨e, h⟩ hb => ⟨e, owns_below h hb⟩), .val (.pointer (some ⟨p, 0, none⟩)), .val (.pointer (some ⟨p, 0, none⟩)), .val (.pointer (some ⟨p, 1, none⟩)), .val (.slice xt Nt ct), .of (fun v w2 => (∃ x c, v = .slice x Nt c) ∧ w2.ownsRow w.heap.size 72 10 v Nt (flatQ S.t)) (fun ⟨e, h⟩ hb => ⟨e, owns_below h hb⟩), .val (.pointer (some ⟨p, 0, none⟩)), .val (.pointer (some ⟨p, 0, none⟩)), .val (.pointer (some ⟨p, 2, none⟩)), .val (.map (some gm)), .of (fun v w2 => ∃ b, v = .map (some b) ∧ w.heap.size ≤ b ∧ MapAt w2 b 1000 (whO S)) (fun ⟨b, e, h1, h2⟩ hb => ⟨b, e, h1, h2.same (hb.block b h2.inside)⟩), .of (fun v w2 => ∃ g c x d b, v = .agg #[.slice (some ⟨g, 0, none⟩) N c, .slice x Nt d, .map (some b)] ∧ w2.ownsRow w.heap.size 86 6 (.slice (some ⟨g, 0, none⟩) N c) N (toursF S.vs us) ∧ w2.ownsRow w.heap.size 72 10 (.slice x Nt d) Nt (flatQ S.t) ∧ w.heap.size ≤ b ∧ MapAt w2 b 1000 (whO S)) (fun ⟨g, c, x, d, b, e, h1, h2, h3, h4⟩ hb => ⟨g, c, x, d, b, e, owns_below h1 hb, owns_below h2 hb, h3, h4.same (hb.block b h4.inside)⟩), .of (fun v w2 => ∃ p, v = .pointer (some ⟨p, 0, none⟩) ∧ w.heap.size ≤ p ∧ ∃ g c x d b, At w2 p 83 #[.slice (some ⟨g, 0, none⟩) N c, .slice x Nt d, .map (some b)] ∧ w2.ownsRow w.heap.size 86 6 (.slice (some ⟨g, 0, none⟩) N c) N (toursF S.vs us) ∧ w2.ownsRow w.heap.size 72 10 (.slice x Nt d) Nt (flatQ S.t) ∧ w.heap.size ≤ b ∧ MapAt w2 b 1000 (whO S)) (fun ⟨p, e, hp, g, c, x, d, b, hA, h1, h2, h3, h4⟩ hb => ⟨p, e, hp, g, c, x, d, b, hA.keep hb hA.inside, owns_below h1 hb, owns_below h2 hb, h3, h4.same (hb.block b h4.inside)⟩)]) (fun _ _ _ => True) (by kernel_rfl) (by kernel_rfl) (by kernel_rfl) (fun h1 h2 => belowTr h1 h2) (fun h1 h2 => VK.keep h1 h2) (Below.refl _ _).drew (fun _ => trivial) (Sched.StepsA.steps (by kernel_rfl) ?hSA) ?hQA
 case hSA =>
  simp only [List.take_succ_cons, List.take_zero]
  refine ⟨?_, ?_, ?_, ?_, ?_, ?_, ?_, ?_, ?_, ?_, ?_, ?_, ?_, ?_, ?_, ?_, ?_, trivial⟩
  · intro ys done W aa hE hn hF hD hZ hG hO
    replace hE : Below w.heap.size w W := hE
    have o0 := hO 0 (by kernel_rfl)
    replace o0 : aa.tmps[0]? = some (.pointer (some ⟨p, 0, none⟩)) := o0
    go_wp2_with fail
    first | exact ⟨_, rfl, Below.refl _ _, VK.val rfl rfl, trivial⟩ | exact ⟨_, rfl, Below.refl _ _, VK.val rfl rfl⟩
  · intro ys done W aa hE hn hF hD hZ hG hO
    replace hE : Below w.heap.size w W := hE
    have v0 := (hF 0 (by decide) (hD 0 (by kernel_rfl))).eq rfl
    have g0 := hG 0 8 rfl (Nat.le_of_ble_eq_true rfl)
    rw [v0] at g0
    have z7 : p < W.heap.size := Nat.lt_of_lt_of_le hp hE.size
    go_wp2_with fail
    first | exact ⟨_, rfl, Below.refl _ _, VK.val rfl rfl, trivial⟩ | exact ⟨_, rfl, Below.refl _ _, VK.val rfl rfl⟩
  · intro ys done W aa hE hn hF hD hZ hG hO
    replace hE : Below w.heap.size w W := hE
    have v1 := (hF 1 (by decide) (hD 1 (by kernel_rfl))).eq rfl
    have g1 := hG 1 9 rfl (Nat.le_of_ble_eq_true rfl)
    rw [v1] at g1
    have z7 : p < W.heap.size := Nat.lt_of_lt_of_le hp hE.size
    go_wp2_with fail
    first | exact ⟨_, rfl, Below.refl _ _, VK.val rfl rfl, trivial⟩ | exact ⟨_, rfl, Below.refl _ _, VK.val rfl rfl⟩
  · intro ys done W aa hE hn hF hD hZ hG hO
    replace hE : Below w.heap.size w W := hE
    have v2 := (hF 2 (by decide) (hD 2 (by kernel_rfl))).eq rfl
    have g2 := hG 2 10 rfl (Nat.le_of_ble_eq_true rfl)
    rw [v2] at g2
    have z7 : p < W.heap.size := Nat.lt_of_lt_of_le hp hE.size
    have z6 := (hE.cell (p := ⟨p, 0, none⟩) hp).trans b0
    go_wp2_with fail
    first | exact ⟨_, rfl, Below.refl _ _, VK.val rfl rfl, trivial⟩ | exact ⟨_, rfl, Below.refl _ _, VK.val rfl rfl⟩
  · intro ys done W aa hE hn hF hD hZ hG hO
    replace hE : Below w.heap.size w W := hE
    have v3 := (hF 3 (by decide) (hD 3 (by kernel_rfl))).eq rfl
    have g3 := hG 3 11 rfl (Nat.le_of_ble_eq_true rfl)
    rw [v3] at g3
    go_wp2_with fail
    refine (CloneT_any gt N cap (toursF S.vs us) (by omega) hone.out W (by have h2 := (h'.out.on hE).own; rw [hN.out] at h2; exact h2)).mono ?_
    rintro e W' ⟨⟨u9, rfl, h2⟩, hb'⟩
    obtain ⟨x2, c2, e2, -, -⟩ := owns_slice h2
    cases x2 with
    | none =>
     exfalso
     rw [e2] at h2
     obtain ⟨-, ⟨-, h0⟩ | ⟨g0, c0, cur, e0, -⟩⟩ := h2
     · omega
     · cases e0
    | some a2 =>
    obtain ⟨g2, rfl⟩ : ∃ g2 : Nat, a2 = ⟨g2, 0, none⟩ := by
     rw [e2] at h2
     obtain ⟨-, ⟨e0, -⟩ | ⟨g0, c0, cur, e0, -⟩⟩ := h2
     · cases e0
     · cases e0; exact ⟨_, rfl⟩
    subst e2
    have hw2 := Lib.hid (owns_more h2 hE.size)
    clear h2
    replace hb' := Lib.hid hb'
    go_wp2_with fail
    first | exact ⟨_, rfl, hb'.out, VK.of rfl ⟨⟨_, _, rfl⟩, hw2.out⟩, trivial⟩ | exact ⟨_, rfl, hb'.out, VK.of rfl ⟨⟨_, _, rfl⟩, hw2.out⟩⟩
  · intro ys done W aa hE hn hF hD hZ hG hO
    replace hE : Below w.heap.size w W := hE
    have o0 := hO 0 (by kernel_rfl)
    replace o0 : aa.tmps[0]? = some (.pointer (some ⟨p, 0, none⟩)) := o0
    go_wp2_with fail
    first | exact ⟨_, rfl, Below.refl _ _, VK.val rfl rfl, trivial⟩ | exact ⟨_, rfl, Below.refl _ _, VK.val rfl rfl⟩
  · intro ys done W aa hE hn hF hD hZ hG hO
    replace hE : Below w.heap.size w W := hE
    have v5 := (hF 5 (by decide) (hD 5 (by kernel_rfl))).eq rfl
    have g5 := hG 5 13 rfl (Nat.le_of_ble_eq_true rfl)
    rw [v5] at g5
    have z7 : p < W.heap.size := Nat.lt_of_lt_of_le hp hE.size
    go_wp2_with fail
    first | exact ⟨_, rfl, Below.refl _ _, VK.val rfl rfl, trivial⟩ | exact ⟨_, rfl, Below.refl _ _, VK.val rfl rfl⟩
  · intro ys done W aa hE hn hF hD hZ hG hO
    replace hE : Below w.heap.size w W := hE
    have v6 := (hF 6 (by decide) (hD 6 (by kernel_rfl))).eq rfl
    have g6 := hG 6 14 rfl (Nat.le_of_ble_eq_true rfl)
    rw [v6] at g6
    have z7 : p < W.heap.size := Nat.lt_of_lt_of_le hp hE.size
    go_wp2_with fail
    first | exact ⟨_, rfl, Below.refl _ _, VK.val rfl rfl, trivial⟩ | exact ⟨_, rfl, Below.refl _ _, VK.val rfl rfl⟩
  · intro ys done W aa hE hn hF hD hZ hG hO
    replace hE : Below w.heap.size w W := hE
    have v7 := (hF 7 (by decide) (hD 7 (by kernel_rfl))).eq rfl
    have g7 := hG 7 15 rfl (Nat.le_of_ble_eq_true rfl)
    rw [v7] at g7
    have z7 : p < W.heap.size := Nat.lt_of_lt_of_le hp hE.size
    have z6 := (hE.cell (p := ⟨p, 1, none⟩) hp).trans b1
    go_wp2_with fail
    first | exact ⟨_, rfl, Below.refl _ _, VK.val rfl rfl, trivial⟩ | exact ⟨_, rfl, Below.refl _ _, VK.val rfl rfl⟩
  · intro ys done W aa hE hn hF hD hZ hG hO
    replace hE : Below w.heap.size w W := hE
    have v8 := (hF 8 (by decide) (hD 8 (by kernel_rfl))).eq rfl
    have g8 := hG 8 16 rfl (Nat.le_of_ble_eq_true rfl)
    rw [v8] at g8
    go_wp2_with fail
    refine (CloneQ_any _ S.t (by rw [hNt.out]; omega) W (show Rqs W.heap.size W _ S.t from (h'.out.on hE).t.1) hplQ.out).mono ?_
    rintro e W' ⟨⟨u9, rfl, h2⟩, hb'⟩
    rw [hNt.out] at h2
    obtain ⟨x2, c2, rfl, -, -⟩ := owns_slice h2
    have hw2 := Lib.hid (owns_more h2 hE.size)
    clear h2
    replace hb' := Lib.hid hb'
    go_wp2_with fail
    first | exact ⟨_, rfl, hb'.out, VK.of rfl ⟨⟨_, _, rfl⟩, hw2.out⟩, trivial⟩ | exact ⟨_, rfl, hb'.out, VK.of rfl ⟨⟨_, _, rfl⟩, hw2.out⟩⟩
  · intro ys done W aa hE hn hF hD hZ hG hO
    replace hE : Below w.heap.size w W := hE
    have o0 := hO 0 (by kernel_rfl)
    replace o0 : aa.tmps[0]? = some (.pointer (some ⟨p, 0, none⟩)) := o0
    go_wp2_with fail
    first | exact ⟨_, rfl, Below.refl _ _, VK.val rfl rfl, trivial⟩ | exact ⟨_, rfl, Below.refl _ _, VK.val rfl rfl⟩
  · intro ys done W aa hE hn hF hD hZ hG hO
    replace hE : Below w.heap.size w W := hE
    have v10 := (hF 10 (by decide) (hD 10 (by kernel_rfl))).eq rfl
    have g10 := hG 10 18 rfl (Nat.le_of_ble_eq_true rfl)
    rw [v10] at g10
    have z7 : p < W.heap.size := Nat.lt_of_lt_of_le hp hE.size
    go_wp2_with fail
    first | exact ⟨_, rfl, Below.refl _ _, VK.val rfl rfl, trivial⟩ | exact ⟨_, rfl, Below.refl _ _, VK.val rfl rfl⟩
  · intro ys done W aa hE hn hF hD hZ hG hO
    replace hE : Below w.heap.size w W := hE
    have v11 := (hF 11 (by decide) (hD 11 (by kernel_rfl))).eq rfl
    have g11 := hG 11 19 rfl (Nat.le_of_ble_eq_true rfl)
    rw [v11] at g11
    have z7 : p < W.heap.size := Nat.lt_of_lt_of_le hp hE.size
    go_wp2_with fail
    first | exact ⟨_, rfl, Below.refl _ _, VK.val rfl rfl, trivial⟩ | exact ⟨_, rfl, Below.refl _ _, VK.val rfl rfl⟩
  · intro ys done W aa hE hn hF hD hZ hG hO
    replace hE : Below w.heap.size w W := hE
    have v12 := (hF 12 (by decide) (hD 12 (by kernel_rfl))).eq rfl
    have g12 := hG 12 20 rfl (Nat.le_of_ble_eq_true rfl)
    rw [v12] at g12
    have z7 : p < W.heap.size := Nat.lt_of_lt_of_le hp hE.size
    have z6 := (hE.cell (p := ⟨p, 2, none⟩) hp).trans b2
    go_wp2_with fail
    first | exact ⟨_, rfl, Below.refl _ _, VK.val rfl rfl, trivial⟩ | exact ⟨_, rfl, Below.refl _ _, VK.val rfl rfl⟩
  · intro ys done W aa hE hn hF hD hZ hG hO
    replace hE : Below w.heap.size w W := hE
    have v13 := (hF 13 (by decide) (hD 13 (by kernel_rfl))).eq rfl
    have g13 := hG 13 21 rfl (Nat.le_of_ble_eq_true rfl)
    rw [v13] at g13
    go_wp2_with fail
    refine (MapClone_any W (h'.out.on hE).map).mono ?_
    rintro e W' ⟨rfl, h2, hb'⟩
    have hw2 := Lib.hid h2
    have hs2 := hE.size
    clear h2
    replace hb' := Lib.hid hb'
    go_wp2_with fail
    first | exact ⟨_, rfl, hb'.out, VK.of rfl ⟨_, rfl, hs2, hw2.out⟩, trivial⟩ | exact ⟨_, rfl, hb'.out, VK.of rfl ⟨_, rfl, hs2, hw2.out⟩⟩
  · intro ys done W aa hE hn hF hD hZ hG hO
    replace hE : Below w.heap.size w W := hE
    have v4 := (hF 4 (by decide) (hD 4 (by kernel_rfl))).get rfl
    have g4 := hG 4 12 rfl (Nat.le_of_ble_eq_true rfl)
    have v9 := (hF 9 (by decide) (hD 9 (by kernel_rfl))).get rfl
    have g9 := hG 9 17 rfl (Nat.le_of_ble_eq_true rfl)
    have v14 := (hF 14 (by decide) (hD 14 (by kernel_rfl))).get rfl
    have g14 := hG 14 22 rfl (Nat.le_of_ble_eq_true rfl)
    obtain ⟨⟨g4b, c4, e4⟩, o4⟩ := v4
    obtain ⟨⟨x9, d9, e9⟩, o9⟩ := v9
    obtain ⟨b14, e14, m14, o14⟩ := v14
    rw [e4] at g4 o4
    rw [e9] at g9 o9
    rw [e14] at g14
    replace o4 := Lib.hid o4
    replace o9 := Lib.hid o9
    replace o14 := Lib.hid o14
    replace m14 := Lib.hid m14
    go_wp2_with fail
    first | exact ⟨_, rfl, Below.refl _ _, VK.of rfl (by exact ⟨g4b, c4, x9, d9, b14, rfl, o4.out, o9.out, m14.out, o14.out⟩), trivial⟩ | exact ⟨_, rfl, Below.refl _ _, VK.of rfl (by exact ⟨g4b, c4, x9, d9, b14, rfl, o4.out, o9.out, m14.out, o14.out⟩)⟩
  · intro ys done W aa hE hn hF hD hZ hG hO
    replace hE : Below w.heap.size w W := hE
    have v15 := (hF 15 (by decide) (hD 15 (by kernel_rfl))).get rfl
    have g15 := hG 15 23 rfl (Nat.le_of_ble_eq_true rfl)
    obtain ⟨g4b, c4, x9, d9, b14, e15, o4, o9, m14, o14⟩ := v15
    rw [e15] at g15
    replace o4 := Lib.hid o4
    replace o9 := Lib.hid o9
    replace o14 := Lib.hid o14
    replace m14 := Lib.hid m14
    have hsW := hE.size
    go_wp2_with fail
    first | exact ⟨_, rfl, (Below.refl _ _).alloc (Nat.le_refl _) _, VK.of rfl (by exact ⟨W.heap.size, rfl, hsW, g4b, c4, x9, d9, b14, At.new _ _ _, o4.out.alloc _, o9.out.alloc _, m14.out, o14.out.alloc _⟩), trivial⟩ | exact ⟨_, rfl, (Below.refl _ _).alloc (Nat.le_refl _) _, VK.of rfl (by exact ⟨W.heap.size, rfl, hsW, g4b, c4, x9, d9, b14, At.new _ _ _, o4.out.alloc _, o9.out.alloc _, m14.out, o14.out.alloc _⟩)⟩
 case hQA =>
  intro ys w6 hE hF _
  replace hE : Below w.heap.size w w6 := hE
  obtain ⟨p2, e16, hp2, gt2, cap2, x2, d2, gm2, hA2, o1, o2, o3, o4⟩ := (hF 16 (by decide)).get rfl
  simp only [List.take_succ_cons, List.take_zero, List.drop_succ_cons, List.drop_zero, Sched.fill, e16]
  clear hF e16
  go_simp
  rw [hM'.out] at hp2 o1 o2 o3
  have hL6 : Hid (LikeAt M w6 p2 gt2 gm2 (.slice x2 Nt d2) cap2 us 0 S) := Lib.hid ⟨by rw [hN.out]; exact hA2, hp2, by rw [hNt.out]; exact o2, by rw [hN.out]; exact o1, h'.out.ulen, fun i u l hi => by omega, o4, o3⟩
  have hB6 := Lib.hid (show Below M w w6 by rw [← hM'.out]; exact hE)
  have z0 := (hE.cell (p := ⟨p, 0, none⟩) hp).trans b0
  have z7 : p < w6.heap.size := Nat.lt_of_lt_of_le hp hE.size
  clear hA2 o1 o2 o3 o4 hE b0 b1 b2
  go_wp2
  go_loopw [30] (fun i wr => ∃ (k : Nat) (us2 : List Value), k ≤ N ∧ i = .int .i64 k ∧ LikeAt M wr p2 gt2 gm2 (.slice x2 Nt d2) cap2 us2 k S ∧ Below M w wr)
   (fun c _ => N - (intOf c).toNat)
  case atStart => exact ⟨0, us, Nat.zero_le _, rfl, hL6.out, hB6.out⟩
  case round =>
   obtain ⟨k, us2, hk, rfl, hL, hbw⟩ := hrel
   clear z0 z7 hL6 hB6
   have hMr : M ≤ wr.heap.size := by have h1 := hbw.size; have h2 := hM'.out; omega
   have hbw0 : Below w.heap.size w wr := by rw [hM'.out]; exact hbw
   have hA := h'.out.on hbw0
   by_cases hlt : k < N
   · obtain ⟨v, hv⟩ : ∃ v, S.vs[k]? = some v := ⟨S.vs[k]'(by rw [hN.out]; exact hlt), List.getElem?_eq_getElem _⟩
     obtain ⟨l, hl⟩ : ∃ l, S.rows[k]? = some l := ⟨S.rows[k]'(by rw [ho'.out.len, hN.out]; exact hlt), List.getElem?_eq_getElem _⟩
     obtain ⟨u, hu, q0, q1, q2, q3, q4, q5⟩ := hA.cells hv
     have hrow0 : Row M w u l := by rw [← hM'.out]; exact (h'.out.rows k u l hu hl).1
     have hrow := (hA.rows k u l hu hl).1
     have hgt := hA.gtIn
     obtain ⟨hd, -, -, -⟩ := ho'.out.dr k v l hv hl
     have hl16 : l.length ≤ 1000000 := by have := hd.hn; omega
     have hkF : (k : Int) < (N : Int) := by omega
     have hkN := Lib.hid hlt
     have hkS : Hid (k < S.vs.length) := Lib.hid (by rw [hN.out]; exact hlt)
     obtain ⟨xu, Nu, cu, rfl, -⟩ := Row.opened (show Row wr.heap.size wr u l from hrow)
     obtain ⟨wq, hwq⟩ : ∃ wq, wr.alloc (.cells #[.int .i64 v.hx, .int .i64 v.hy, .int .i64 v.cp, .int .i64 v.st, .int .i64 v.en, .slice xu Nu cu] 86) = wq := ⟨_, rfl⟩
     obtain ⟨q, hq⟩ : ∃ q, wr.heap.size = q := ⟨_, rfl⟩
     have hA1 : At wq q 86 #[.int .i64 v.hx, .int .i64 v.hy, .int .i64 v.cp, .int .i64 v.st, .int .i64 v.en, .slice xu Nu cu] := by rw [← hwq]; exact At.new_ _ _ _ hq.symm
     have hb1 : Below wr.heap.size wr wq := by rw [← hwq]; exact (Below.refl _ _).alloc (Nat.le_refl _) _
     have hB1 := Lib.hid (hbw.trans (hb1.mono hMr))
     have hL1 := Lib.hid (hL.on hb1)
     have hrow' := Lib.hid hrow0
     have hq1 : q ≠ gt2 := by have := hL.gtIn; omega
     have hMg : M ≤ gt2 := hL.gtIn.1
     have hg2i : gt2 < wq.heap.size := Nat.lt_of_lt_of_le hL.gtIn.2 hb1.size
     have hM1 : M ≤ wq.heap.size := Nat.le_trans hMr hb1.size
     have q5' := hA1.cell 5
     simp at q5'
     have hqi := hA1.inside
     have hvat := Lib.hid hv
     have hlat := Lib.hid hl
     have hwq' := Lib.hid hwq
     have hq' := Lib.hid hq
     clear hv hl hu hrow hrow0 hd hbw hA hwq hq hb1 hA1 hL hbw0
     go_upto_region 7 with fail
     try simp only [hq'.out]
     rw [hwq'.out]
     clear q0 q1 q2 q3 q4 q5
     have hcells : Hid (∀ W us3 k3, LikeAt M W p2 gt2 gm2 (.slice x2 Nt d2) cap2 us3 k3 S → p2 < W.heap.size ∧ W.cell? ⟨p2, 0, none⟩ = some (.slice (some ⟨gt2, 0, none⟩) N cap2) ∧ gt2 < W.heap.size) := Lib.hid (fun W us3 k3 hW => by
      have c0 := hW.box.cell 0
      rw [hN.out] at c0
      exact ⟨hW.box.inside, by simpa using c0, hW.gtIn.2⟩)
     refine Sched.wp_region_schedA 11 (fun W W' => Chg (fun k => k = gt2) W W') (VC (G := fun k => k = gt2) [.val (.pointer (some ⟨p2, 0, none⟩)), .val (.pointer (some ⟨p2, 0, none⟩)), .val (.pointer (some ⟨p2, 0, none⟩)), .val (.slice (some ⟨gt2, 0, none⟩) N cap2), .val (.int .i64 k), .val (.pointer (some ⟨q, 5, none⟩)), .val (.slice xu Nu cu), .of (fun x W => (∃ y c, x = .slice y l.length c) ∧ W.ownsRow M 75 2 x l.length (flatS l) ∧ Off (fun k => k = gt2) x) (fun ⟨e, h1, h2⟩ hc => ⟨e, hc.owns h1 h2, h2⟩), .val (.pointer (some ⟨gt2, k * 6, none⟩)), .val (.pointer (some ⟨gt2, k * 6 + 5, none⟩)), .any]) (fun done _ W => ZQ 10 8 (fun W => LikeAt M W p2 gt2 gm2 (.slice x2 Nt d2) cap2 us2 k S) (fun W => ∃ us', LikeAt M W p2 gt2 gm2 (.slice x2 Nt d2) cap2 us' (k + 1) S) done W) rfl (by kernel_rfl) (by kernel_rfl) (by kernel_rfl) (by kernel_rfl) (fun h1 h2 => h1.trans h2) (fun h1 h2 => VC.keep h1 h2) (Chg.of_below (Below.refl _ _).drew) (fun ys => ZQ.start (hL1.out.on (Below.refl _ _).drew)) (Sched.StepsA.steps (by kernel_rfl) ?hSB) ?hQB
     case hSB =>
      simp only [List.take_succ_cons, List.take_zero]
      refine ⟨?_, ?_, ?_, ?_, ?_, ?_, ?_, ?_, ?_, ?_, ?_, trivial⟩
      · intro ys done W aa hE hn hF hD hZ hG hO
        replace hE : Chg (fun k => k = gt2) wq W := hE
        have o3 := hO 3 (by kernel_rfl)
        replace o3 : aa.tmps[3]? = some (.pointer (some ⟨p2, 0, none⟩)) := o3
        replace hZ := Lib.hid hZ
        go_wp2_with fail
        exact ⟨_, rfl, Chg.refl _ _, VC.val rfl rfl, hZ.out.light (by decide) (fun h => LikeAt.on h (Below.refl _ _)) (fun h => (h.elim fun us2 h2 => ⟨us2, LikeAt.on h2 (Below.refl _ _)⟩))⟩
      · intro ys done W aa hE hn hF hD hZ hG hO
        replace hE : Chg (fun k => k = gt2) wq W := hE
        have v0 := (hF 0 (by decide) (hD 0 (by kernel_rfl))).eq rfl
        have g0 := hG 0 35 rfl (Nat.le_of_ble_eq_true rfl)
        rw [v0] at g0
        have hA := hZ.fst (by decide) hn
        obtain ⟨z9, z0, z8⟩ := hcells.out W _ _ hA
        replace hZ := Lib.hid hZ
        go_wp2_with fail
        exact ⟨_, rfl, Chg.refl _ _, VC.val rfl rfl, hZ.out.light (by decide) (fun h => LikeAt.on h (Below.refl _ _)) (fun h => (h.elim fun us2 h2 => ⟨us2, LikeAt.on h2 (Below.refl _ _)⟩))⟩
      · intro ys done W aa hE hn hF hD hZ hG hO
        replace hE : Chg (fun k => k = gt2) wq W := hE
        have v1 := (hF 1 (by decide) (hD 1 (by kernel_rfl))).eq rfl
        have g1 := hG 1 36 rfl (Nat.le_of_ble_eq_true rfl)
        rw [v1] at g1
        have hA := hZ.fst (by decide) hn
        obtain ⟨z9, z0, z8⟩ := hcells.out W _ _ hA
        replace hZ := Lib.hid hZ
        go_wp2_with fail
        exact ⟨_, rfl, Chg.refl _ _, VC.val rfl rfl, hZ.out.light (by decide) (fun h => LikeAt.on h (Below.refl _ _)) (fun h => (h.elim fun us2 h2 => ⟨us2, LikeAt.on h2 (Below.refl _ _)⟩))⟩
      · intro ys done W aa hE hn hF hD hZ hG hO
        replace hE : Chg (fun k => k = gt2) wq W := hE
        have v2 := (hF 2 (by decide) (hD 2 (by kernel_rfl))).eq rfl
        have g2 := hG 2 37 rfl (Nat.le_of_ble_eq_true rfl)
        rw [v2] at g2
        have hA := hZ.fst (by decide) hn
        obtain ⟨z9, z0, z8⟩ := hcells.out W _ _ hA
        replace hZ := Lib.hid hZ
        go_wp2_with fail
        exact ⟨_, rfl, Chg.refl _ _, VC.val rfl rfl, hZ.out.light (by decide) (fun h => LikeAt.on h (Below.refl _ _)) (fun h => (h.elim fun us2 h2 => ⟨us2, LikeAt.on h2 (Below.refl _ _)⟩))⟩
      · intro ys done W aa hE hn hF hD hZ hG hO
        replace hE : Chg (fun k => k = gt2) wq W := hE
        have o4 := hO 4 (by kernel_rfl)
        replace o4 : aa.tmps[4]? = some (.int .i64 k) := o4
        replace hZ := Lib.hid hZ
        go_wp2_with fail
        exact ⟨_, rfl, Chg.refl _ _, VC.val rfl rfl, hZ.out.light (by decide) (fun h => LikeAt.on h (Below.refl _ _)) (fun h => (h.elim fun us2 h2 => ⟨us2, LikeAt.on h2 (Below.refl _ _)⟩))⟩
      · intro ys done W aa hE hn hF hD hZ hG hO
        replace hE : Chg (fun k => k = gt2) wq W := hE
        have o5 := hO 5 (by kernel_rfl)
        replace o5 : aa.tmps[5]? = some (.pointer (some ⟨q, 0, none⟩)) := o5
        have hA := hZ.fst (by decide) hn
        have z5 : q < W.heap.size := Nat.lt_of_lt_of_le hqi hE.size
        replace hZ := Lib.hid hZ
        go_wp2_with fail
        exact ⟨_, rfl, Chg.refl _ _, VC.val rfl rfl, hZ.out.light (by decide) (fun h => LikeAt.on h (Below.refl _ _)) (fun h => (h.elim fun us2 h2 => ⟨us2, LikeAt.on h2 (Below.refl _ _)⟩))⟩
      · intro ys done W aa hE hn hF hD hZ hG hO
        replace hE : Chg (fun k => k = gt2) wq W := hE
        have v5 := (hF 5 (by decide) (hD 5 (by kernel_rfl))).eq rfl
        have g5 := hG 5 40 rfl (Nat.le_of_ble_eq_true rfl)
        rw [v5] at g5
        have hA := hZ.fst (by decide) hn
        have z5 : q < W.heap.size := Nat.lt_of_lt_of_le hqi hE.size
        have z6 := (World.cell?_of_block (a := ⟨q, 5, none⟩) (hE.block q hqi hq1)).trans q5'
        replace hZ := Lib.hid hZ
        go_wp2_with fail
        exact ⟨_, rfl, Chg.refl _ _, VC.val rfl rfl, hZ.out.light (by decide) (fun h => LikeAt.on h (Below.refl _ _)) (fun h => (h.elim fun us2 h2 => ⟨us2, LikeAt.on h2 (Below.refl _ _)⟩))⟩
      · intro ys done W aa hE hn hF hD hZ hG hO
        replace hE : Chg (fun k => k = gt2) wq W := hE
        have v6 := (hF 6 (by decide) (hD 6 (by kernel_rfl))).eq rfl
        have g6 := hG 6 41 rfl (Nat.le_of_ble_eq_true rfl)
        rw [v6] at g6
        have hA := hZ.fst (by decide) hn
        replace hZ := Lib.hid hZ
        go_wp2_with fail
        refine (CloneS_any _ l hl16 W (Row.more (Row.keep hrow'.out (hB1.out.trans (hE.below hM1 (fun k e => by rw [e]; exact hMg))) (Nat.le_refl _)) (Nat.le_trans hM1 hE.size))).mono ?_
        rintro e W' ⟨⟨u9, rfl, h2⟩, hb'⟩
        obtain ⟨y2, c2, rfl, -, -⟩ := owns_slice h2
        have hMW := Nat.le_trans hM1 hE.size
        have hgW := hA.gtIn.2
        have hw2 := Lib.hid (And.intro (owns_more h2 hMW) (show Off (fun k => k = gt2) (.slice y2 l.length c2) from fun g e he => by have := (World.ownsRow.lt h2 g e).1; omega))
        clear h2
        replace hb' := Lib.hid hb'
        go_wp2_with fail
        exact ⟨_, rfl, Chg.of_below hb'.out, VC.of rfl ⟨⟨_, _, rfl⟩, hw2.out.1, hw2.out.2⟩, hZ.out.light (by decide) (fun h => LikeAt.on h (hb'.out)) (fun h => (h.elim fun us2 h2 => ⟨us2, LikeAt.on h2 (hb'.out)⟩))⟩
      · intro ys done W aa hE hn hF hD hZ hG hO
        replace hE : Chg (fun k => k = gt2) wq W := hE
        have v3 := (hF 3 (by decide) (hD 3 (by kernel_rfl))).eq rfl
        have g3 := hG 3 38 rfl (Nat.le_of_ble_eq_true rfl)
        rw [v3] at g3
        have v4 := (hF 4 (by decide) (hD 4 (by kernel_rfl))).eq rfl
        have g4 := hG 4 39 rfl (Nat.le_of_ble_eq_true rfl)
        rw [v4] at g4
        have z8 : gt2 < W.heap.size := Nat.lt_of_lt_of_le hg2i hE.size
        replace hZ := Lib.hid hZ
        go_wp2_with fail
        exact ⟨_, rfl, Chg.refl _ _, VC.val rfl rfl, hZ.out.light (by decide) (fun h => LikeAt.on h (Below.refl _ _)) (fun h => (h.elim fun us2 h2 => ⟨us2, LikeAt.on h2 (Below.refl _ _)⟩))⟩
      · intro ys done W aa hE hn hF hD hZ hG hO
        replace hE : Chg (fun k => k = gt2) wq W := hE
        have v8 := (hF 8 (by decide) (hD 8 (by kernel_rfl))).eq rfl
        have g8 := hG 8 43 rfl (Nat.le_of_ble_eq_true rfl)
        rw [v8] at g8
        have z8 : gt2 < W.heap.size := Nat.lt_of_lt_of_le hg2i hE.size
        replace hZ := Lib.hid hZ
        go_wp2_with fail
        exact ⟨_, rfl, Chg.refl _ _, VC.val rfl rfl, hZ.out.light (by decide) (fun h => LikeAt.on h (Below.refl _ _)) (fun h => (h.elim fun us2 h2 => ⟨us2, LikeAt.on h2 (Below.refl _ _)⟩))⟩
      · intro ys done W aa hE hn hF hD hZ hG hO
        replace hE : Chg (fun k => k = gt2) wq W := hE
        have v9 := (hF 9 (by decide) (hD 9 (by kernel_rfl))).eq rfl
        have g9 := hG 9 44 rfl (Nat.le_of_ble_eq_true rfl)
        rw [v9] at g9
        have v7 := (hF 7 (by decide) (hD 7 (by kernel_rfl))).get rfl
        have g7 := hG 7 42 rfl (Nat.le_of_ble_eq_true rfl)
        have hA := hZ.a hn
        replace hD := Lib.hid (show ∀ i, i < 8 → done i = true by intro i hi; rcases (by omega : i = 0 ∨ i = 1 ∨ i = 2 ∨ i = 3 ∨ i = 4 ∨ i = 5 ∨ i = 6 ∨ i = 7) with rfl | rfl | rfl | rfl | rfl | rfl | rfl | rfl; all_goals exact hD _ (by kernel_rfl))
        obtain ⟨⟨y9, c9, e9⟩, hr9, -⟩ := v7
        rw [e9] at g7 hr9
        have hfz := hA.own.frozenAt (k * 6 + 5)
        obtain ⟨u9, hu9, y5⟩ := hA.cells hvat.out
        clear hu9
        have hgi := hA.gtIn.2
        have hfin := Lib.hid (hA.put hkS.out hlat.out hr9)
        clear hA hZ hr9 e9
        go_wp2_with fail
        exact ⟨Chg.set (D := fun k => k = gt2) W (g := gt2) rfl (k * 6 + 5) _, ⟨undef, VC.any rfl⟩, ZQ.put (by decide) hD.out ⟨_, hfin.out⟩⟩
     case hQB =>
      intro ys w7 hE hF hZ
      replace hE : Chg (fun k => k = gt2) wq w7 := hE
      obtain ⟨done, hdn, hZ⟩ := hZ
      have hP1 := hZ.b (hdn 10 (by decide))
      simp only [List.take_succ_cons, List.take_zero, List.drop_succ_cons, List.drop_zero, Sched.fill]
      clear hF hZ hdn 
      go_simp
      obtain ⟨us9, hP9⟩ := hP1
      have hfin := Lib.hid hP9
      have hB7 := Lib.hid (hB1.out.trans (hE.below hM1 (fun k e => by rw [e]; exact hMg)))
      clear hP9 hE q5'
      go_wp2
      go_roundw
      case rel => exact ⟨k + 1, us9, hkN.out, by go_num, hfin.out, hB7.out⟩
      case measure => simp [intOf]; omega
   · obtain rfl : k = N := by omega
     have hfin : Hid (∃ D' G2, PlanAt D' G2 wr p2 S ∧ Grew D D' w wr ∧ ∀ j, G2 j → w.heap.size ≤ j) := Lib.hid (by
      have hgt2 := hL.gtIn
      have hlt := h'.out.lt
      refine ⟨fun j => D j ∨ j = gt2 ∨ j = gm2, fun j => j = gt2 ∨ j = gm2, ⟨_, _, _, _, _, ProgAt.made hL.box hL.pM hL.ot hL.own hL.ulen (fun i u l hu hl => hL.rows i u l (by have h1 := (List.getElem?_eq_some_iff.1 hu).1; rw [hL.ulen, hN.out] at h1; exact h1) hu hl) hL.map hL.mM (Nat.le_refl _) (fun j hj => ?_) (.inr (.inl rfl)) (.inr (.inr rfl))⟩, ⟨fun j hj => .inl hj, fun j hj => ?_, fun j hj => ?_⟩, fun j hj => ?_⟩
      · rcases hj with hj | hj | hj
        · have := hlt j hj; have := hM'.out; right; right; omega
        · exact .inl hj
        · exact .inr (.inl hj)
      · rcases hj with hj | hj | hj
        · exact .inl hj
        · right; have := hM'.out; omega
        · right; have := hM'.out; have := hL.mM; omega
      · rcases hj with hj | hj | hj
        · have := hlt j hj; have := hM'.out; omega
        · omega
        · have := hL.map.inside; omega
      · have := hM'.out
        have := hL.mM
        rcases hj with hj | hj <;> omega)
     have hB9 := Lib.hid hbw0
     clear hA hL hbw hbw0
     go_wp2
     go_ret
     exact ⟨⟨_, rfl, hfin.out⟩, hB9.out⟩
end Go.Proofs.YtlbghdiebjldjaaGreatDoor.Plan

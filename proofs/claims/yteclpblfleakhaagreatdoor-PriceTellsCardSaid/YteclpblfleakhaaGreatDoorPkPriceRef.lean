import Derived.Test.YteclpblfleakhaaGreatDoorPkSchedVK
import Derived.Test.YteclpblfleakhaaGreatDoorPkPriceMath

namespace Go.Proofs.YteclpblfleakhaaGreatDoor.Price
open Go.RowKit Go.Sort Go.Proofs.YteclpblfleakhaaGreatDoor.Mem Go.Proofs.YteclpblfleakhaaGreatDoor.Order Go.Proofs.YteclpblfleakhaaGreatDoor.Route Go.Proofs.YteclpblfleakhaaGreatDoor.When Go.Proofs.YteclpblfleakhaaGreatDoor.Load Go.Proofs.YteclpblfleakhaaGreatDoor.Feas Go.Proofs.YteclpblfleakhaaGreatDoor.Ins Go.Proofs.YteclpblfleakhaaGreatDoor.Cheap Go.Proofs.YteclpblfleakhaaGreatDoor.Plan
set_option linter.unusedVariables false
def inB (r : Int) (l : List (Int × Int)) : Bool := decide (0 ≤ ixV (r, 0) l) || decide (0 ≤ ixV (r, 1) l)
theorem ix_none {r k : Int} : ∀ {l : List (Int × Int)} {n : Nat}, noR r l = true → ixF (r, k) n l = -1
 | [], _, _ => rfl
 | x :: xs, n, h => by
  have h' := noR_iff.1 h
  rw [ixF_no (fun e => h' x (by simp) (by rw [e]))]
  exact ix_none (noR_iff.2 fun s hs => h' s (by simp [hs]))
theorem ix_some {s : Int × Int} : ∀ {l : List (Int × Int)} {n : Nat}, s ∈ l → 0 ≤ ixF s n l
 | [], _, h => by simp at h
 | x :: xs, n, h => by
  by_cases e : x = s
  · rw [ixF_yes e]; omega
  · rw [ixF_no e]
    refine ix_some ?_
    rcases List.mem_cons.1 h with h1 | h1
    · exact absurd h1.symm e
    · exact h1
theorem in_noR {v : Vh} {l : List (Int × Int)} {t : List Rq} (h : okF v l t = true) (r : Int) : inB r l = !noR r l := by
 obtain ⟨hd, -, -⟩ := ok_dr h
 unfold inB ixV
 cases hn : noR r l
 · obtain ⟨s, hs, rfl⟩ := noR_mem hn
   have hl := hd.hl
   unfold isR at hl
   have h1 := List.all_eq_true.1 hl s hs
   simp only [Bool.and_eq_true, decide_eq_true_eq] at h1
   have h2 : ((s.1, 0) : Int × Int) ∈ ofR s.1 l := by rw [h1.2]; simp
   have h3 : ((s.1, 0) : Int × Int) ∈ l := by unfold ofR at h2; exact (List.mem_filter.1 h2).1
   have := ix_some (n := 0) h3
   simp [this]
 · rw [ix_none hn, ix_none hn]
   rfl
set_option maxRecDepth 100000 in
set_option maxHeartbeats 1000000 in
theorem refIn_any (v : Value) (l : List (Int × Int)) (r : Int) (hl : l.length ≤ 1000000) (w : World) (h : Row w.heap.size w v l) :
 Calls Tryz.prog 45 #[v, .int .i64 r] w fun e w' => e = .returned (.bool (inB r l)) ∧ Below w.heap.size w w' := by
 have hA := refAt_any v l r hl w h
 obtain ⟨x, N, cap, rfl, -⟩ := h.opened
 obtain ⟨a, ha⟩ : ∃ a, ixV (r, 0) l = a := ⟨_, rfl⟩
 obtain ⟨b, hb⟩ : ∃ b, ixV (r, 1) l = b := ⟨_, rfl⟩
 have he : Hid (inB r l = (decide (0 ≤ a) || decide (0 ≤ b))) := Lib.hid (by unfold inB; rw [ha, hb])
 rw [ha, hb] at hA
 clear ha hb h
 go_enter Tryz.func45, Tryz.ntmps45
 go_wp2_with fail
 refine hA.mono ?_
 clear hA
 rintro e w1 ⟨rfl, hb1⟩
 have hb1' := Lib.hid hb1
 clear hb1
 by_cases h1 : 0 ≤ a
 · have h2 : Hid (inB r l = true) := Lib.hid (by rw [he.out, decide_eq_true h1, Bool.true_or])
   go_wp2
   go_ret
   exact ⟨Order.ret_bool h2.out.symm, hb1'.out⟩
 by_cases h3 : 0 ≤ b
 · have h2 : Hid (inB r l = true) := Lib.hid (by rw [he.out, decide_eq_true h3, Bool.or_true])
   go_wp2
   go_ret
   exact ⟨Order.ret_bool h2.out.symm, hb1'.out⟩
 · go_wp2
   go_ret
   exact ⟨Order.ret_bool he.out.symm, hb1'.out⟩
theorem may_bad {S : St} {k : Nat} {v : Vh} {l : List (Int × Int)} (hv : S.vs[k]? = some v) (hl : S.rows[k]? = some l) (h : ¬ (okF v l S.t = true ∧ offB l (S.rows.take k) = true)) : mayS S = false := by
 cases hm : mayS S
 · rfl
 · exact absurd ((mayS_iff.1 hm).2.2 k v l hv hl) h
theorem off_one {S : St} {k x : Nat} {l m : List (Int × Int)} {s : Int × Int} (hs : s ∈ l) (hx : x < k) (hm : S.rows[x]? = some m) (h : noR s.1 m = false) : offB l (S.rows.take k) = false := by
 cases ho : offB l (S.rows.take k)
 · rfl
 · have hmem : m ∈ S.rows.take k := List.mem_of_getElem? (i := x) (by rw [List.getElem?_take_of_lt hx]; exact hm)
   rw [offB_iff.1 ho s hs m hmem] at h
   cases h
def okK (S : St) (k : Nat) : Prop := ∀ (i : Nat) v l, i < k → S.vs[i]? = some v → S.rows[i]? = some l → okF v l S.t = true ∧ offB l (S.rows.take i) = true
theorem okK_zero (S : St) : okK S 0 := fun i v l h => absurd h (Nat.not_lt_zero i)
theorem okK_next {S : St} {k : Nat} {v : Vh} {l : List (Int × Int)} (h : okK S k) (hv : S.vs[k]? = some v) (hl : S.rows[k]? = some l) (h1 : okF v l S.t = true) (h2 : offB l (S.rows.take k) = true) : okK S (k + 1) := by
 intro i v' l' hi hv' hl'
 by_cases e : i = k
 · subst e
   rw [hv] at hv'; rw [hl] at hl'
   cases hv'; cases hl'
   exact ⟨h1, h2⟩
 · exact h i v' l' (by omega) hv' hl'
theorem okK_all {S : St} (h : okK S S.vs.length) (hc : 1 ≤ S.vs.length ∧ S.vs.length ≤ 4) (hl : S.rows.length = S.vs.length) : mayS S = true :=
 mayS_iff.2 ⟨hc, hl, fun i v l hv hl2 => h i v l (List.getElem?_eq_some_iff.1 hv).1 hv hl2⟩
set_option maxRecDepth 100000 in
set_option maxHeartbeats 8000000 in
theorem refMay_any {vf vr vt : Value} (S : St) (w : World) (hF : Vhs w.heap.size w vf S.vs) (hR : Rws w.heap.size w vr S.rows) (hT : Rqs w.heap.size w vt S.t) (hlen : ∀ l ∈ S.rows, l.length ≤ 100) :
 Calls Tryz.prog 44 #[vf, vr, vt] w fun e w' => e = .returned (.bool (mayS S)) ∧ Below w.heap.size w w' := by
 obtain ⟨xf, Nf, cf, rfl, hNf0, hfc1, hfc2, -⟩ := Vhs.opened hF
 obtain ⟨xr, Nr, cr, rfl, hNr0, hrc1, hrc2⟩ := Rws.opened hR
 obtain ⟨xt, Nt, ct, rfl, hNt0, htc1, htc2, -⟩ := Rqs.opened hT
 unfold maxLen at hfc2 hrc2 htc2
 have hiff := Lib.hid (mayS_iff (S := S))
 have hall := Lib.hid (okK_all (S := S))
 rw [hNf0, hNr0] at hiff hall
 have hF' := Lib.hid hF
 have hR' := Lib.hid hR
 have hT' := Lib.hid hT
 have hlen' := Lib.hid hlen
 have hNf := Lib.hid hNf0
 have hNr := Lib.hid hNr0
 clear hF hR hT hlen hNf0 hNr0 hNt0
 have hno : Hid (¬ ((1 ≤ Nf ∧ Nf ≤ 4) ∧ Nr = Nf) → mayS S = false) := Lib.hid (fun h => by
  cases hm : mayS S
  · rfl
  · exact absurd ⟨(hiff.out.1 hm).1, (hiff.out.1 hm).2.1⟩ h)
 go_enter Tryz.func44, Tryz.ntmps44
 by_cases h1 : (Nf : Int) < 1
 · have he := Lib.hid (hno.out (by omega))
   go_wp2
   go_ret
   exact ⟨Order.ret_bool he.out.symm, Below.refl _ _⟩
 by_cases h2 : (4 : Int) < (Nf : Int)
 · have he := Lib.hid (hno.out (by omega))
   go_wp2
   go_ret
   exact ⟨Order.ret_bool he.out.symm, Below.refl _ _⟩
 cases h3 : ((Nr : Int) != (Nf : Int))
 rotate_left
 · have he := Lib.hid (hno.out (fun h => by rw [h.2] at h3; simp at h3))
   go_wp2
   go_ret
   exact ⟨Order.ret_bool he.out.symm, Below.refl _ _⟩
 have h3' : Nr = Nf := by
  have : (Nr : Int) = (Nf : Int) := by simpa using h3
  omega
 subst h3'
 go_wp2
 go_loopw [7] (fun c wr => ∃ k : Nat, k ≤ Nr ∧ c = .int .i64 k ∧ Hid (okK S k) ∧ Below w.heap.size w wr)
  (fun c _ => Nr - (intOf c).toNat)
 case atStart => exact ⟨0, Nat.zero_le _, rfl, Lib.hid (okK_zero _), Below.refl _ _⟩
 case round =>
  obtain ⟨k, hk, rfl, hok, hbw⟩ := hrel
  by_cases hlt : k < Nr
  · obtain ⟨v, hv⟩ : ∃ v, S.vs[k]? = some v := ⟨S.vs[k]'(by rw [hNf.out]; exact hlt), List.getElem?_eq_getElem _⟩
    obtain ⟨l, hl⟩ : ∃ l, S.rows[k]? = some l := ⟨S.rows[k]'(by rw [hNr.out]; exact hlt), List.getElem?_eq_getElem _⟩
    have hl100 := hlen'.out l (List.mem_of_getElem? hl)
    obtain ⟨gv, ov, rfl, hgv, q0, q1, q2, q3, q4⟩ := Vhs.at (hF'.out.on hbw) hv
    obtain ⟨gr, orr, u, rfl, hgr, hru, hrow⟩ := Rws.at (hR'.out.on hbw) hl
    obtain ⟨xl, Nl, cl, rfl, hNl0, -, hlc1, hlc2⟩ := hrow.opened
    unfold maxLen at hlc2
    have hkF : (k : Int) < (Nr : Int) := by omega
    have hkN := Lib.hid hlt
    have hv' := Lib.hid hv
    have hl' := Lib.hid hl
    have hl100' := Lib.hid hl100
    have hbw' := Lib.hid hbw
    have hsz := hbw.size
    have hrow' := Lib.hid hrow
    have hTw : Hid (Rqs wr.heap.size wr (.slice xt Nt ct) S.t) := Lib.hid (hT'.out.on hbw)
    obtain ⟨Fa, hFa0⟩ : ∃ a, (faultV v l S.t).1 = a := ⟨_, rfl⟩
    obtain ⟨Fb, hFb0⟩ : ∃ a, (faultV v l S.t).2.1 = a := ⟨_, rfl⟩
    obtain ⟨Fc, hFc0⟩ : ∃ a, (faultV v l S.t).2.2 = a := ⟨_, rfl⟩
    have hFa := Lib.hid hFa0
    have hFb := Lib.hid hFb0
    have hFc := Lib.hid hFc0
    have hru9 := Lib.hid hru
    clear hv hl hl100 hrow hbw hFa0 hFb0 hFc0
    go_upto_region 6 with fail
    refine Sched.wp_region_sched 11 (fun W W' => Below W.heap.size W W') (VK [.val (.slice (some ⟨gv, ov, none⟩) Nr cf), .val (.int .i64 k), .val (.pointer (some ⟨gv, ov + k * 5, none⟩)), .val (.agg #[.int .i64 v.hx, .int .i64 v.hy, .int .i64 v.cp, .int .i64 v.st, .int .i64 v.en]), .val (.slice (some ⟨gr, orr, none⟩) Nr cr), .val (.int .i64 k), .val (.pointer (some ⟨gr, orr + k, none⟩)), .val (.slice xl Nl cl), .val (.slice xt Nt ct), .val (.agg #[.int .i64 Fa, .int .i64 Fb, .int .i64 Fc]), .of (fun v W => ∃ g, v = .pointer (some ⟨g, 0, none⟩) ∧ wr.heap.size ≤ g ∧ At W g 126 #[.int .i64 0, .int .i64 0, .int .i64 0]) (fun ⟨g, e, h1, h2⟩ hb => ⟨g, e, h1, h2.keep hb h2.inside⟩)]) (fun _ _ _ => True) (by kernel_rfl) (by kernel_rfl) (by kernel_rfl) (fun h1 h2 => belowTr h1 h2) (fun h1 h2 => VK.keep h1 h2) (Below.refl _ _).drew (fun _ => trivial) (Sched.StepsA.steps (by kernel_rfl) ?hSA) ?hQA
    case hSA =>
     simp only [List.take_succ_cons, List.take_zero]
     refine ⟨?_, ?_, ?_, ?_, ?_, ?_, ?_, ?_, ?_, ?_, ?_, trivial⟩
     · intro ys done W aa hE hn hF hD hZ hG hO
       replace hE : Below wr.heap.size wr W := hE
       have o0 := hO 0 (by kernel_rfl)
       replace o0 : aa.tmps[0]? = some (.slice (some ⟨gv, ov, none⟩) Nr cf) := o0
       go_wp2_with fail
       first | exact ⟨_, rfl, Below.refl _ _, VK.val rfl rfl, trivial⟩ | exact ⟨_, rfl, Below.refl _ _, VK.val rfl rfl⟩
     · intro ys done W aa hE hn hF hD hZ hG hO
       replace hE : Below wr.heap.size wr W := hE
       have o7 := hO 7 (by kernel_rfl)
       replace o7 : aa.tmps[7]? = some (.int .i64 k) := o7
       go_wp2_with fail
       first | exact ⟨_, rfl, Below.refl _ _, VK.val rfl rfl, trivial⟩ | exact ⟨_, rfl, Below.refl _ _, VK.val rfl rfl⟩
     · intro ys done W aa hE hn hF hD hZ hG hO
       replace hE : Below wr.heap.size wr W := hE
       have v0 := (hF 0 (by decide) (hD 0 (by kernel_rfl))).eq rfl
       have g0 := hG 0 32 rfl (Nat.le_of_ble_eq_true rfl)
       rw [v0] at g0
       have v1 := (hF 1 (by decide) (hD 1 (by kernel_rfl))).eq rfl
       have g1 := hG 1 33 rfl (Nat.le_of_ble_eq_true rfl)
       rw [v1] at g1
       go_wp2_with fail
       first | exact ⟨_, rfl, Below.refl _ _, VK.val rfl rfl, trivial⟩ | exact ⟨_, rfl, Below.refl _ _, VK.val rfl rfl⟩
     · intro ys done W aa hE hn hF hD hZ hG hO
       replace hE : Below wr.heap.size wr W := hE
       have v2 := (hF 2 (by decide) (hD 2 (by kernel_rfl))).eq rfl
       have g2 := hG 2 34 rfl (Nat.le_of_ble_eq_true rfl)
       rw [v2] at g2
       have z0 := (hE.cell (p := ⟨gv, ov + k * 5, none⟩) hgv).trans q0
       have z1 := (hE.cell (p := ⟨gv, ov + k * 5 + 1, none⟩) hgv).trans q1
       have z2 := (hE.cell (p := ⟨gv, ov + k * 5 + 2, none⟩) hgv).trans q2
       have z3 := (hE.cell (p := ⟨gv, ov + k * 5 + 3, none⟩) hgv).trans q3
       have z4 := (hE.cell (p := ⟨gv, ov + k * 5 + 4, none⟩) hgv).trans q4
       go_wp2_with fail
       first | exact ⟨_, rfl, Below.refl _ _, VK.val rfl rfl, trivial⟩ | exact ⟨_, rfl, Below.refl _ _, VK.val rfl rfl⟩
     · intro ys done W aa hE hn hF hD hZ hG hO
       replace hE : Below wr.heap.size wr W := hE
       have o1 := hO 1 (by kernel_rfl)
       replace o1 : aa.tmps[1]? = some (.slice (some ⟨gr, orr, none⟩) Nr cr) := o1
       go_wp2_with fail
       first | exact ⟨_, rfl, Below.refl _ _, VK.val rfl rfl, trivial⟩ | exact ⟨_, rfl, Below.refl _ _, VK.val rfl rfl⟩
     · intro ys done W aa hE hn hF hD hZ hG hO
       replace hE : Below wr.heap.size wr W := hE
       have o7 := hO 7 (by kernel_rfl)
       replace o7 : aa.tmps[7]? = some (.int .i64 k) := o7
       go_wp2_with fail
       first | exact ⟨_, rfl, Below.refl _ _, VK.val rfl rfl, trivial⟩ | exact ⟨_, rfl, Below.refl _ _, VK.val rfl rfl⟩
     · intro ys done W aa hE hn hF hD hZ hG hO
       replace hE : Below wr.heap.size wr W := hE
       have v4 := (hF 4 (by decide) (hD 4 (by kernel_rfl))).eq rfl
       have g4 := hG 4 36 rfl (Nat.le_of_ble_eq_true rfl)
       rw [v4] at g4
       have v5 := (hF 5 (by decide) (hD 5 (by kernel_rfl))).eq rfl
       have g5 := hG 5 37 rfl (Nat.le_of_ble_eq_true rfl)
       rw [v5] at g5
       go_wp2_with fail
       first | exact ⟨_, rfl, Below.refl _ _, VK.val rfl rfl, trivial⟩ | exact ⟨_, rfl, Below.refl _ _, VK.val rfl rfl⟩
     · intro ys done W aa hE hn hF hD hZ hG hO
       replace hE : Below wr.heap.size wr W := hE
       have v6 := (hF 6 (by decide) (hD 6 (by kernel_rfl))).eq rfl
       have g6 := hG 6 38 rfl (Nat.le_of_ble_eq_true rfl)
       rw [v6] at g6
       have z0 := (hE.cell (p := ⟨gr, orr + k, none⟩) hgr).trans hru
       go_wp2_with fail
       first | exact ⟨_, rfl, Below.refl _ _, VK.val rfl rfl, trivial⟩ | exact ⟨_, rfl, Below.refl _ _, VK.val rfl rfl⟩
     · intro ys done W aa hE hn hF hD hZ hG hO
       replace hE : Below wr.heap.size wr W := hE
       have o2 := hO 2 (by kernel_rfl)
       replace o2 : aa.tmps[2]? = some (.slice xt Nt ct) := o2
       go_wp2_with fail
       first | exact ⟨_, rfl, Below.refl _ _, VK.val rfl rfl, trivial⟩ | exact ⟨_, rfl, Below.refl _ _, VK.val rfl rfl⟩
     · intro ys done W aa hE hn hF hD hZ hG hO
       replace hE : Below wr.heap.size wr W := hE
       have v3 := (hF 3 (by decide) (hD 3 (by kernel_rfl))).eq rfl
       have g3 := hG 3 35 rfl (Nat.le_of_ble_eq_true rfl)
       rw [v3] at g3
       have v7 := (hF 7 (by decide) (hD 7 (by kernel_rfl))).eq rfl
       have g7 := hG 7 39 rfl (Nat.le_of_ble_eq_true rfl)
       rw [v7] at g7
       have v8 := (hF 8 (by decide) (hD 8 (by kernel_rfl))).eq rfl
       have g8 := hG 8 40 rfl (Nat.le_of_ble_eq_true rfl)
       rw [v8] at g8
       go_wp2_with fail
       refine (rCheck_any v _ _ l S.t hl100'.out W (hrow'.out.on hE) (hTw.out.on hE)).mono ?_
       rintro e W' ⟨rfl, hb'⟩
       rw [hFa.out, hFb.out, hFc.out]
       replace hb' := Lib.hid hb'
       go_wp2_with fail
       first | exact ⟨_, rfl, hb'.out, VK.val rfl rfl, trivial⟩ | exact ⟨_, rfl, hb'.out, VK.val rfl rfl⟩
     · intro ys done W aa hE hn hF hD hZ hG hO
       replace hE : Below wr.heap.size wr W := hE
       go_wp2_with fail
       first | exact ⟨_, rfl, (Below.refl _ _).alloc (Nat.le_refl _) _, VK.of rfl ⟨_, rfl, hE.size, At.new _ _ _⟩, trivial⟩ | exact ⟨_, rfl, (Below.refl _ _).alloc (Nat.le_refl _) _, VK.of rfl ⟨_, rfl, hE.size, At.new _ _ _⟩⟩
    case hQA =>
     intro ys w6 hE hF _
     replace hE : Below wr.heap.size wr w6 := hE
     have v9 := (hF 9 (by decide)).eq rfl
     have v10 := (hF 10 (by decide)).get rfl
     obtain ⟨g6, e10, hg6, hA6⟩ := v10
     simp only [List.take_succ_cons, List.take_zero, List.drop_succ_cons, List.drop_zero, Sched.fill, v9, e10]
     clear hF v9 e10
     go_simp
     have hP7 : At (((w6.setCell ⟨g6, 0, none⟩ (.int .i64 Fa)).setCell ⟨g6, 1, none⟩ (.int .i64 Fb)).setCell ⟨g6, 2, none⟩ (.int .i64 Fc)) g6 126 #[.int .i64 Fa, .int .i64 Fb, .int .i64 Fc] := by simpa using ((hA6.put 0 _).put 1 _).put 2 _
     have hb7 : Below wr.heap.size wr (((w6.setCell ⟨g6, 0, none⟩ (.int .i64 Fa)).setCell ⟨g6, 1, none⟩ (.int .i64 Fb)).setCell ⟨g6, 2, none⟩ (.int .i64 Fc)) := ((hE.setCell (show wr.heap.size ≤ (⟨g6, 0, none⟩ : Addr).block from hg6) _).setCell (show wr.heap.size ≤ (⟨g6, 1, none⟩ : Addr).block from hg6) _).setCell (show wr.heap.size ≤ (⟨g6, 2, none⟩ : Addr).block from hg6) _
     have hAf := hA6.free
     have y0 := hA6.cell 0
     have y1 := hA6.cell 1
     have y2 := hA6.cell 2
     simp at y0 y1 y2
     have hgi := hA6.inside
     clear hE hA6 q0 q1 q2 q3 q4 hru
     go_upto_region 7 with fail
     obtain ⟨w7, hw7⟩ : ∃ w7, (((w6.setCell ⟨g6, 0, none⟩ (.int .i64 Fa)).setCell ⟨g6, 1, none⟩ (.int .i64 Fb)).setCell ⟨g6, 2, none⟩ (.int .i64 Fc)) = w7 := ⟨_, rfl⟩
     rw [hw7] at hP7 hb7 ⊢
     clear hw7 y0 y1 y2 hAf hgi
     have p0 := hP7.cell 0
     simp at p0
     have hpi := hP7.inside
     have hB7 := Lib.hid (hbw'.out.trans (hb7.mono hsz))
     have hb7' := Lib.hid hb7
     have hs7 := hb7.size
     clear hb7 hP7
     cases hFz : (Fa == 0)
     · have hFn : (Fa != 0) = true := by simp [hFz, bne]
       have he := Lib.hid (may_bad hv'.out hl'.out (fun h => by
        have h0 : (faultV v l S.t).1 = 0 := by simpa [okF] using h.1
        rw [hFa.out] at h0; rw [h0] at hFz; simp at hFz))
       go_wp2
       go_ret
       exact ⟨Order.ret_bool he.out.symm, hB7.out⟩
     have hFn : (Fa != 0) = false := by simp [hFz, bne]
     have hokl : Hid (okF v l S.t = true) := Lib.hid (by
      have : Fa = 0 := by simpa using hFz
      unfold okF
      rw [hFa.out, this]; rfl)
     have hNl := Lib.hid hNl0
     clear hFz hNl0
     have hR7 : Hid (Rws w7.heap.size w7 (.slice (some ⟨gr, orr, none⟩) Nr cr) S.rows) := Lib.hid (hR'.out.on hB7.out)
     have hru7 := (hb7'.out.cell (p := ⟨gr, orr + k, none⟩) hgr).trans hru9.out
     have hgr7 : gr < w7.heap.size := by omega
     have hN100 : Nl ≤ 100 := by rw [← hNl.out]; exact hl100'.out
     have hrow7 := Lib.hid (hrow'.out.on hb7'.out)
     go_wp2
     go_loopw [9] (fun c wq => ∃ m : Nat, m ≤ Nl ∧ c = .int .i64 m ∧ Hid (∀ s ∈ l.take m, ∀ x ∈ S.rows.take k, noR s.1 x = true) ∧ Below w7.heap.size w7 wq)
      (fun c _ => Nl - (intOf c).toNat)
     case atStart => exact ⟨0, Nat.zero_le _, rfl, Lib.hid (by simp), Below.refl _ _⟩
     case round =>
      obtain ⟨wq, hwq⟩ : ∃ wq, wq = wr := ⟨_, rfl⟩
      subst hwq
      obtain ⟨m, hm, rfl, hoff, hbq⟩ := hrel
      have hruq := (hbq.cell (p := ⟨gr, orr + k, none⟩) hgr7).trans hru7
      have hgrq : gr < wq.heap.size := by have := hbq.size; omega
      have hbq' := Lib.hid hbq
      by_cases hlm : m < Nl
      · obtain ⟨s, hs⟩ : ∃ s, l[m]? = some s := ⟨l[m]'(by rw [hNl.out]; exact hlm), List.getElem?_eq_getElem _⟩
        obtain ⟨gl, ol, rfl, hgl, e1, e2⟩ := Row.stop (hrow7.out.on hbq) hs
        try simp at e1 e2
        have hmI : (m : Int) < (Nl : Int) := by omega
        have hmN := Lib.hid hlm
        have hs' := Lib.hid hs
        have hsl := Lib.hid (List.mem_of_getElem? hs)
        obtain ⟨s1, hs1⟩ : ∃ a, s.1 = a := ⟨_, rfl⟩
        rw [hs1] at e1
        have hs1' := Lib.hid hs1
        clear hs hs1 hbq e2 hru7
        go_wp2
        go_loopw [10] (fun c wz => ∃ x : Nat, x ≤ k ∧ c = .int .i64 x ∧ Hid (∀ z ∈ S.rows.take x, noR s1 z = true) ∧ Below wq.heap.size wq wz)
         (fun c _ => k - (intOf c).toNat)
        case atStart => exact ⟨0, Nat.zero_le _, rfl, Lib.hid (by simp), Below.refl _ _⟩
        case round =>
         obtain ⟨wz, hwz⟩ : ∃ wz, wz = wr := ⟨_, rfl⟩
         subst hwz
         obtain ⟨x, hx, rfl, hnx, hbz⟩ := hrel
         by_cases hlx : x < k
         · obtain ⟨lx, hlx2⟩ : ∃ lx, S.rows[x]? = some lx := ⟨S.rows[x]'(by rw [hNr.out]; omega), List.getElem?_eq_getElem _⟩
           obtain ⟨vx, hvx⟩ : ∃ vx, S.vs[x]? = some vx := ⟨S.vs[x]'(by rw [hNf.out]; omega), List.getElem?_eq_getElem _⟩
           have hRz := (hR7.out.on hbq'.out).on hbz
           obtain ⟨gr2, or2, ux, er2, hgr2, hrx, hrowx⟩ := Rws.at hRz hlx2
           cases er2
           have hin := Lib.hid (in_noR (hok.out x vx lx hlx hvx hlx2).1 s1)
           obtain ⟨xx, Nx, cx, rfl, -⟩ := hrowx.opened
           have hru3 := (hbz.cell (p := ⟨gr, orr + k, none⟩) hgrq).trans hruq
           have e3 := (hbz.cell (p := ⟨gl, ol + m * 2, none⟩) hgl).trans e1
           have hgl3 : gl < wz.heap.size := by have := hbz.size; omega
           have hxI : (x : Int) < (Nr : Int) := by omega
           have hxk : (x : Int) < (k : Int) := by omega
           have hxk' := Lib.hid hlx
           have hlx100 := Lib.hid (hlen'.out lx (List.mem_of_getElem? hlx2))
           have hrowx' := Lib.hid hrowx
           have hlx2' := Lib.hid hlx2
           have hbz' := Lib.hid hbz
           clear hRz hlx2 hvx hrowx hbz
           go_upto_region 15 with fail
           refine Sched.wp_region_sched 12 (fun W W' => Below W.heap.size W W') (VK [.val (.slice (some ⟨gr, orr, none⟩) Nr cr), .val (.int .i64 x), .val (.pointer (some ⟨gr, orr + x, none⟩)), .val (.slice xx Nx cx), .val (.slice (some ⟨gr, orr, none⟩) Nr cr), .val (.int .i64 k), .val (.pointer (some ⟨gr, orr + k, none⟩)), .val (.slice (some ⟨gl, ol, none⟩) Nl cl), .val (.int .i64 m), .val (.pointer (some ⟨gl, ol + m * 2, none⟩)), .val (.pointer (some ⟨gl, ol + m * 2, none⟩)), .val (.int .i64 s1)]) (fun _ _ _ => True) (by kernel_rfl) (by kernel_rfl) (by kernel_rfl) (fun h1 h2 => belowTr h1 h2) (fun h1 h2 => VK.keep h1 h2) (Below.refl _ _).drew (fun _ => trivial) (Sched.StepsA.steps (by kernel_rfl) ?hSB) ?hQB
           case hSB =>
            simp only [List.take_succ_cons, List.take_zero]
            refine ⟨?_, ?_, ?_, ?_, ?_, ?_, ?_, ?_, ?_, ?_, ?_, ?_, trivial⟩
            · intro ys done W aa hE hn hF hD hZ hG hO
              replace hE : Below wz.heap.size wz W := hE
              have o1 := hO 1 (by kernel_rfl)
              replace o1 : aa.tmps[1]? = some (.slice (some ⟨gr, orr, none⟩) Nr cr) := o1
              go_wp2_with fail
              first | exact ⟨_, rfl, Below.refl _ _, VK.val rfl rfl, trivial⟩ | exact ⟨_, rfl, Below.refl _ _, VK.val rfl rfl⟩
            · intro ys done W aa hE hn hF hD hZ hG hO
              replace hE : Below wz.heap.size wz W := hE
              have o10 := hO 10 (by kernel_rfl)
              replace o10 : aa.tmps[10]? = some (.int .i64 x) := o10
              go_wp2_with fail
              first | exact ⟨_, rfl, Below.refl _ _, VK.val rfl rfl, trivial⟩ | exact ⟨_, rfl, Below.refl _ _, VK.val rfl rfl⟩
            · intro ys done W aa hE hn hF hD hZ hG hO
              replace hE : Below wz.heap.size wz W := hE
              have v0 := (hF 0 (by decide) (hD 0 (by kernel_rfl))).eq rfl
              have g0 := hG 0 59 rfl (Nat.le_of_ble_eq_true rfl)
              rw [v0] at g0
              have v1 := (hF 1 (by decide) (hD 1 (by kernel_rfl))).eq rfl
              have g1 := hG 1 60 rfl (Nat.le_of_ble_eq_true rfl)
              rw [v1] at g1
              go_wp2_with fail
              first | exact ⟨_, rfl, Below.refl _ _, VK.val rfl rfl, trivial⟩ | exact ⟨_, rfl, Below.refl _ _, VK.val rfl rfl⟩
            · intro ys done W aa hE hn hF hD hZ hG hO
              replace hE : Below wz.heap.size wz W := hE
              have v2 := (hF 2 (by decide) (hD 2 (by kernel_rfl))).eq rfl
              have g2 := hG 2 61 rfl (Nat.le_of_ble_eq_true rfl)
              rw [v2] at g2
              have z0 := (hE.cell (p := ⟨gr, orr + x, none⟩) hgr2).trans hrx
              go_wp2_with fail
              first | exact ⟨_, rfl, Below.refl _ _, VK.val rfl rfl, trivial⟩ | exact ⟨_, rfl, Below.refl _ _, VK.val rfl rfl⟩
            · intro ys done W aa hE hn hF hD hZ hG hO
              replace hE : Below wz.heap.size wz W := hE
              have o1 := hO 1 (by kernel_rfl)
              replace o1 : aa.tmps[1]? = some (.slice (some ⟨gr, orr, none⟩) Nr cr) := o1
              go_wp2_with fail
              first | exact ⟨_, rfl, Below.refl _ _, VK.val rfl rfl, trivial⟩ | exact ⟨_, rfl, Below.refl _ _, VK.val rfl rfl⟩
            · intro ys done W aa hE hn hF hD hZ hG hO
              replace hE : Below wz.heap.size wz W := hE
              have o7 := hO 7 (by kernel_rfl)
              replace o7 : aa.tmps[7]? = some (.int .i64 k) := o7
              go_wp2_with fail
              first | exact ⟨_, rfl, Below.refl _ _, VK.val rfl rfl, trivial⟩ | exact ⟨_, rfl, Below.refl _ _, VK.val rfl rfl⟩
            · intro ys done W aa hE hn hF hD hZ hG hO
              replace hE : Below wz.heap.size wz W := hE
              have v4 := (hF 4 (by decide) (hD 4 (by kernel_rfl))).eq rfl
              have g4 := hG 4 63 rfl (Nat.le_of_ble_eq_true rfl)
              rw [v4] at g4
              have v5 := (hF 5 (by decide) (hD 5 (by kernel_rfl))).eq rfl
              have g5 := hG 5 64 rfl (Nat.le_of_ble_eq_true rfl)
              rw [v5] at g5
              go_wp2_with fail
              first | exact ⟨_, rfl, Below.refl _ _, VK.val rfl rfl, trivial⟩ | exact ⟨_, rfl, Below.refl _ _, VK.val rfl rfl⟩
            · intro ys done W aa hE hn hF hD hZ hG hO
              replace hE : Below wz.heap.size wz W := hE
              have v6 := (hF 6 (by decide) (hD 6 (by kernel_rfl))).eq rfl
              have g6 := hG 6 65 rfl (Nat.le_of_ble_eq_true rfl)
              rw [v6] at g6
              have z0 := (hE.cell (p := ⟨gr, orr + k, none⟩) hgr2).trans hru3
              go_wp2_with fail
              first | exact ⟨_, rfl, Below.refl _ _, VK.val rfl rfl, trivial⟩ | exact ⟨_, rfl, Below.refl _ _, VK.val rfl rfl⟩
            · intro ys done W aa hE hn hF hD hZ hG hO
              replace hE : Below wz.heap.size wz W := hE
              have o9 := hO 9 (by kernel_rfl)
              replace o9 : aa.tmps[9]? = some (.int .i64 m) := o9
              go_wp2_with fail
              first | exact ⟨_, rfl, Below.refl _ _, VK.val rfl rfl, trivial⟩ | exact ⟨_, rfl, Below.refl _ _, VK.val rfl rfl⟩
            · intro ys done W aa hE hn hF hD hZ hG hO
              replace hE : Below wz.heap.size wz W := hE
              have v7 := (hF 7 (by decide) (hD 7 (by kernel_rfl))).eq rfl
              have g7 := hG 7 66 rfl (Nat.le_of_ble_eq_true rfl)
              rw [v7] at g7
              have v8 := (hF 8 (by decide) (hD 8 (by kernel_rfl))).eq rfl
              have g8 := hG 8 67 rfl (Nat.le_of_ble_eq_true rfl)
              rw [v8] at g8
              go_wp2_with fail
              first | exact ⟨_, rfl, Below.refl _ _, VK.val rfl rfl, trivial⟩ | exact ⟨_, rfl, Below.refl _ _, VK.val rfl rfl⟩
            · intro ys done W aa hE hn hF hD hZ hG hO
              replace hE : Below wz.heap.size wz W := hE
              have v9 := (hF 9 (by decide) (hD 9 (by kernel_rfl))).eq rfl
              have g9 := hG 9 68 rfl (Nat.le_of_ble_eq_true rfl)
              rw [v9] at g9
              go_wp2_with fail
              first | exact ⟨_, rfl, Below.refl _ _, VK.val rfl rfl, trivial⟩ | exact ⟨_, rfl, Below.refl _ _, VK.val rfl rfl⟩
            · intro ys done W aa hE hn hF hD hZ hG hO
              replace hE : Below wz.heap.size wz W := hE
              have v10 := (hF 10 (by decide) (hD 10 (by kernel_rfl))).eq rfl
              have g10 := hG 10 69 rfl (Nat.le_of_ble_eq_true rfl)
              rw [v10] at g10
              have z0 := (hE.cell (p := ⟨gl, ol + m * 2, none⟩) hgl3).trans e3
              go_wp2_with fail
              first | exact ⟨_, rfl, Below.refl _ _, VK.val rfl rfl, trivial⟩ | exact ⟨_, rfl, Below.refl _ _, VK.val rfl rfl⟩
           case hQB =>
            intro ys w9 hE hF _
            replace hE : Below wz.heap.size wz w9 := hE
            have v3 := (hF 3 (by decide)).eq rfl
            have v11 := (hF 11 (by decide)).eq rfl
            simp only [List.take_succ_cons, List.take_zero, List.drop_succ_cons, List.drop_zero, Sched.fill, v3, v11]
            clear hF v3 v11 
            go_simp
            have hIn := refIn_any _ lx s1 (by have := hlx100.out; omega) w9 (hrowx'.out.on hE)
            obtain ⟨b9, hb9⟩ : ∃ b, inB s1 lx = b := ⟨_, rfl⟩
            rw [hb9] at hIn
            have hb9' := Lib.hid hb9
            have hE' := Lib.hid hE
            clear hE hb9 hru3 e3 hrx
            go_wp2_with fail
            refine hIn.mono ?_
            clear hIn
            rintro e w10 ⟨rfl, hb10⟩
            have hB10 := Lib.hid (hbz'.out.trans ((hE'.out.trans (hb10.mono hE'.out.size)).mono hbz'.out.size))
            have hBw := Lib.hid (hB7.out.trans (((hbq'.out.trans (hB10.out.mono hbq'.out.size))).mono hB7.out.size))
            clear hb10
            cases b9
            · have hn2 : Hid (∀ z ∈ S.rows.take (x + 1), noR s1 z = true) := Lib.hid (by
               intro z hz
               rw [List.take_add_one, hlx2'.out] at hz
               rcases List.mem_append.1 hz with h1 | h1
               · exact hnx.out z h1
               · have : z = lx := by simpa using h1
                 subst this
                 have := hin.out
                 rw [hb9'.out] at this
                 simpa using this.symm)
              go_wp2
              go_roundw
              case rel => exact ⟨x + 1, hxk'.out, by go_num, hn2, hB10.out⟩
              case measure => simp [intOf]; omega
            · have he := Lib.hid (may_bad hv'.out hl'.out (fun h => by
               have h0 : noR s.1 lx = false := by
                have := hin.out
                rw [hb9'.out] at this
                rw [hs1'.out]
                simpa using this.symm
               rw [off_one hsl.out hxk'.out hlx2'.out h0] at h
               cases h.2))
              go_wp2
              go_ret
              exact ⟨Order.ret_bool he.out.symm, hBw.out⟩
         · obtain rfl : x = k := by omega
           have hn2 : Hid (∀ z ∈ l.take (m + 1), ∀ y ∈ S.rows.take x, noR z.1 y = true) := Lib.hid (by
            intro z hz y hy
            rw [List.take_add_one, hs'.out] at hz
            rcases List.mem_append.1 hz with h1 | h1
            · exact hoff.out z h1 y hy
            · have : z = s := by simpa using h1
              subst this
              rw [hs1'.out]
              exact hnx.out y hy)
           have hBz := Lib.hid (hbq'.out.trans (hbz.mono hbq'.out.size))
           clear hbz
           go_wp2
           go_roundw
           case rel => exact ⟨m + 1, hmN.out, by go_num, hn2, hBz.out⟩
           case measure => simp [intOf]; omega
      · obtain rfl : m = Nl := by omega
        have hok2 : Hid (okK S (k + 1)) := Lib.hid (okK_next hok.out hv'.out hl'.out hokl.out (offB_iff.2 (by
         have := hoff.out
         rw [List.take_of_length_le (Nat.le_of_eq hNl.out)] at this
         exact this)))
        have hBq := Lib.hid (hB7.out.trans (hbq.mono hB7.out.size))
        clear hbq hoff
        go_wp2
        go_roundw
        case rel => exact ⟨k + 1, hkN.out, by go_num, hok2, hBq.out⟩
        case measure => simp [intOf]; omega
  · obtain rfl : k = Nr := by omega
    have he : Hid (mayS S = true) := Lib.hid (hall.out hok.out ⟨by omega, by omega⟩ (by first | rfl | trivial))
    go_wp2
    go_ret
    exact ⟨Order.ret_bool he.out.symm, hbw⟩
end Go.Proofs.YteclpblfleakhaaGreatDoor.Price

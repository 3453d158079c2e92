import Derived.Test.YteclpblfleakhaaGreatDoorPkWhenRefTimes
import Derived.Test.YteclpblfleakhaaGreatDoorPkPriceRef

namespace Go.Proofs.YteclpblfleakhaaGreatDoor.Price
open Go.RowKit Go.Sort Go.Proofs.YteclpblfleakhaaGreatDoor.Mem Go.Proofs.YteclpblfleakhaaGreatDoor.Order Go.Proofs.YteclpblfleakhaaGreatDoor.Route Go.Proofs.YteclpblfleakhaaGreatDoor.When Go.Proofs.YteclpblfleakhaaGreatDoor.Load Go.Proofs.YteclpblfleakhaaGreatDoor.Feas Go.Proofs.YteclpblfleakhaaGreatDoor.Ins Go.Proofs.YteclpblfleakhaaGreatDoor.Cheap Go.Proofs.YteclpblfleakhaaGreatDoor.Plan
set_option linter.unusedVariables false
def wqC (y : Int × Wy) : List Value := [.int .i64 y.1, .int .i64 y.2.i, .int .i64 y.2.j, .int .i64 y.2.n]
def flatQ (l : List (Int × Wy)) : List Value := (l.map wqC).flatten
theorem flatQ_snoc (l : List (Int × Wy)) (y : Int × Wy) : flatQ (l ++ [y]) = flatQ l ++ [.int .i64 y.1, .int .i64 y.2.i, .int .i64 y.2.j, .int .i64 y.2.n] := by simp [flatQ, wqC]
def Wqs (B : Nat) (W : World) (v : Value) (l : List (Int × Wy)) : Prop := RowB B W v 4 (l.map wqC)
theorem Wqs.of_owns {B : Nat} {W : World} {base n : Nat} {e : TypeId} {v : Value} {l : List (Int × Wy)} (h : W.ownsRow base e 4 v n (flatQ l)) (hn : n = l.length) (hB : W.heap.size ≤ B) : Wqs B W v l :=
 RowB.of_owns h (by simpa using hn) (fun r hr => by obtain ⟨s, _, rfl⟩ := List.mem_map.1 hr; rfl) hB
theorem Wqs.at {B : Nat} {W : World} {x : Option Addr} {n cap : Nat} {l : List (Int × Wy)} (h : Wqs B W (.slice x n cap) l) {k : Nat} {y : Int × Wy} (hk : l[k]? = some y) :
 ∃ g o, x = some ⟨g, o, none⟩ ∧ g < B ∧ W.cell? ⟨g, o + k * 4, none⟩ = some (.int .i64 y.1) ∧ W.cell? ⟨g, o + k * 4 + 1, none⟩ = some (.int .i64 y.2.i) ∧ W.cell? ⟨g, o + k * 4 + 2, none⟩ = some (.int .i64 y.2.j) ∧ W.cell? ⟨g, o + k * 4 + 3, none⟩ = some (.int .i64 y.2.n) := by
 obtain ⟨g, o, e, hg, hc⟩ := RowB.row h (j := k) (r := wqC y) (by rw [List.getElem?_map, hk]; rfl)
 exact ⟨g, o, e, hg, hc 0 _ rfl, hc 1 _ rfl, hc 2 _ rfl, hc 3 _ rfl⟩
theorem Wqs.keep {B C : Nat} {W W' : World} {v : Value} {l : List (Int × Wy)} (h : Wqs B W v l) (hb : Below C W W') (hB : B ≤ C) : Wqs B W' v l := RowB.keep h hb hB
theorem Wqs.opened {B : Nat} {W : World} {v : Value} {t : List (Int × Wy)} (h : Wqs B W v t) : ∃ x N cap, v = .slice x N cap ∧ t.length = N ∧ N ≤ cap ∧ cap ≤ maxLen := by
 obtain ⟨x, cap, rfl, h1, h2, h0, _⟩ := h
 exact ⟨x, t.length, cap, by simp, rfl, by simpa using h1, h2⟩
theorem info_way : (Tryz.prog.info? 64).map (fun i => (i.zero, i.size, i.bytes)) = some (some (.agg #[.int .i64 0, .int .i64 0, .int .i64 0, .int .i64 0]), 4, 32) := by kernel_rfl
theorem ways_len (v : Vh) (l : List (Int × Int)) (t : List Rq) (r : Int) (ps : List (Int × Int)) : (waysP v l t r ps).length ≤ ps.length := List.length_filterMap_le _ _
theorem waysA_len (S : St) (r : Int) : ∀ k, (waysA S r k).length ≤ 153 * k
 | 0 => by simp [waysA]
 | k + 1 => by
  have := waysA_len S r k
  have h2 : (waysK S r k).length ≤ 153 := by
   unfold waysK
   split
   · rename_i v l hv hl
     rw [List.length_map]
     exact Nat.le_trans (ways_len v l S.t r _) (pairsL_len _)
   · simp
  show (waysA S r k ++ waysK S r k).length ≤ _
  rw [List.length_append]
  omega
def inK (S : St) (r : Int) (k : Nat) (v : Vh) (l pre : List (Int × Int)) : List (Int × Wy) := waysA S r k ++ (waysP v l S.t r pre).map fun y => ((k : Int), y)
theorem inK_nil (S : St) (r : Int) (k : Nat) (v : Vh) (l : List (Int × Int)) : inK S r k v l [] = waysA S r k := by simp [inK, waysP]
theorem inK_all {S : St} {r : Int} {k : Nat} {v : Vh} {l : List (Int × Int)} (hv : S.vs[k]? = some v) (hl : S.rows[k]? = some l) : inK S r k v l (pairsL l.length) = waysA S r (k + 1) := by
 show _ = waysA S r k ++ waysK S r k
 rw [waysK_at hv hl]
 rfl
theorem inK_no {S : St} {r : Int} {k : Nat} {v : Vh} {l pre : List (Int × Int)} {i j : Int} (h : riseE v l S.t r i j ≠ 0) : inK S r k v l (pre ++ [(i, j)]) = inK S r k v l pre := by
 unfold inK
 rw [waysP_snoc, wayI_no (y := (i, j)) h]
 simp
theorem inK_yes {S : St} {r : Int} {k : Nat} {v : Vh} {l pre : List (Int × Int)} {i j : Int} (h : riseE v l S.t r i j = 0) : inK S r k v l (pre ++ [(i, j)]) = inK S r k v l pre ++ [((k : Int), ⟨i, j, riseV v l S.t r i j⟩)] := by
 unfold inK
 rw [waysP_snoc, wayI_yes (y := (i, j)) h]
 simp
theorem inK_len {S : St} {r : Int} {k : Nat} {v : Vh} {l pre rest : List (Int × Int)} (hk : k ≤ 4) (h : pairsL l.length = pre ++ rest) : (inK S r k v l pre).length ≤ 1000 := by
 have h1 := waysA_len S r k
 have h2 := ways_len v l S.t r pre
 have h3 := pairsL_len l.length
 rw [h, List.length_append] at h3
 unfold inK
 rw [List.length_append, List.length_map]
 omega
theorem rise_no {v : Vh} {l : List (Int × Int)} {t : List Rq} {r i j : Int} (h : mayW l r i j = false) : riseE v l t r i j ≠ 0 := fun h0 => by
 have := (withE_zero (riseE_zero h0).1).2.2.2.2
 rw [h] at this
 cases this
theorem rise_ok {v : Vh} {l : List (Int × Int)} {t : List Rq} {r i j : Int} (hd : Feas.Dr v l t) (hm : mayW l r i j = true) (hr : inT t r = true) : riseE v l t r i j = 0 ↔ (faultV v (moreL l r i j) t).1 = 0 := by
 have h := mayW_iff.1 hm
 exact rise_iff (moreDr hd hm (inT_iff.1 hr).2 (by omega)) hm hr (by omega)
set_option maxRecDepth 100000 in
set_option maxHeartbeats 8000000 in
theorem refWays_any {vf vr vt : Value} (S : St) (r : Int) (w : World) (hF : Vhs w.heap.size w vf S.vs) (hR : Rws w.heap.size w vr S.rows) (hT : Rqs w.heap.size w vt S.t) (hlen : ∀ l ∈ S.rows, l.length ≤ 100) (hnum : ∀ l ∈ S.rows, Nums l) :
 Calls Tryz.prog 29 #[vf, vr, vt, .int .i64 r] w fun e w' => (∃ u, e = .returned u ∧ Wqs w'.heap.size w' u (waysS S r)) ∧ Below w.heap.size w w' := by
 obtain ⟨i0, hi, hz0, hz1, hz2⟩ := info_parts info_way
 have hM := refMay_any S w hF hR hT hlen
 obtain ⟨xf, Nf, cf, rfl, hNf0, hfc1, hfc2, -⟩ := Vhs.opened hF
 obtain ⟨xr, Nr, cr, rfl, hNr0, hrc1, hrc2⟩ := Rws.opened hR
 obtain ⟨xt, Nt, ct, rfl, hNt0, htc1, htc2, -⟩ := Rqs.opened hT
 unfold maxLen at hfc2 hrc2 htc2
 obtain ⟨b, hb⟩ : ∃ b, mayS S = b := ⟨_, rfl⟩
 rw [hb] at hM
 have hb' := Lib.hid hb
 have hF' := Lib.hid hF
 have hR' := Lib.hid hR
 have hT' := Lib.hid hT
 have hlen' := Lib.hid hlen
 have hnum' := Lib.hid hnum
 have hNf := Lib.hid hNf0
 have hNr := Lib.hid hNr0
 have hin := Lib.hid (inT_iff (t := S.t) (r := r))
 rw [hNt0] at hin
 clear hF hR hT hlen hnum hNt0 hb
 go_enter Tryz.func29, Tryz.ntmps29
 go_wp2_with fail
 refine hM.mono ?_
 clear hM
 rintro e w1 ⟨rfl, hb1⟩
 have hB1 := Lib.hid hb1
 clear hb1
 cases b
 · have he := Lib.hid (ways_no (r := r) hb'.out)
   go_wp2
   refine bodyPost_ret (v := .slice none 0 0) (by simp [results, Tryz.results29, go_sem]) rfl ?_
   exact ⟨⟨_, rfl, by rw [he.out]; exact RowB.nil _ _ _⟩, hB1.out⟩
 have hout : Hid (inT S.t r = false → waysS S r = []) := Lib.hid (fun h => ways_out (by unfold clearS; rw [h]; rfl))
 by_cases h1 : r < 0
 · have he := Lib.hid (hout.out (by cases h : inT S.t r; rfl; have := hin.out.1 h; omega))
   go_wp2
   refine bodyPost_ret (v := .slice none 0 0) (by simp [results, Tryz.results29, go_sem]) rfl ?_
   exact ⟨⟨_, rfl, by rw [he.out]; exact RowB.nil _ _ _⟩, hB1.out⟩
 by_cases h2 : (Nt : Int) ≤ r
 · have he := Lib.hid (hout.out (by cases h : inT S.t r; rfl; have := hin.out.1 h; omega))
   go_wp2
   refine bodyPost_ret (v := .slice none 0 0) (by simp [results, Tryz.results29, go_sem]) rfl ?_
   exact ⟨⟨_, rfl, by rw [he.out]; exact RowB.nil _ _ _⟩, hB1.out⟩
 have hinT : Hid (inT S.t r = true) := Lib.hid (hin.out.2 ⟨by omega, by omega⟩)
 have hrI : Hid (I64 r) := Lib.hid ⟨by omega, by omega⟩
 obtain ⟨hc4, hrv, hokA0⟩ := mayS_iff.1 hb'.out
 have hokA : Hid (∀ (i : Nat) v l, S.vs[i]? = some v → S.rows[i]? = some l → okF v l S.t = true) := Lib.hid (fun i v l hv hl => (hokA0 i v l hv hl).1)
 have hNN : Nr = Nf := by omega
 subst hNN
 have hN4 : Nr ≤ 4 := by omega
 clear hokA0 hc4 hrv hin
 go_wp2
 go_loopw [9] (fun c wr => ∃ k : Nat, k ≤ Nr ∧ c = .int .i64 k ∧ Hid (∀ z ∈ S.rows.take k, noR r z = true) ∧ Below w.heap.size w wr)
  (fun c _ => Nr - (intOf c).toNat)
 case atStart => exact ⟨0, Nat.zero_le _, rfl, Lib.hid (by simp), hB1.out⟩
 case round =>
  obtain ⟨wq, hwq⟩ : ∃ wq, wq = wr := ⟨_, rfl⟩
  subst hwq
  obtain ⟨k, hk, rfl, hno, hbw⟩ := hrel
  by_cases hlt : k < Nr
  · obtain ⟨l, hl⟩ : ∃ l, S.rows[k]? = some l := ⟨S.rows[k]'(by rw [hNr.out]; exact hlt), List.getElem?_eq_getElem _⟩
    obtain ⟨v, hv⟩ : ∃ v, S.vs[k]? = some v := ⟨S.vs[k]'(by rw [hNf.out]; exact hlt), List.getElem?_eq_getElem _⟩
    obtain ⟨gr, orr, u, rfl, hgr, hru, hrow⟩ := Rws.at (hR'.out.on hbw) hl
    have hl100 := hlen'.out l (List.mem_of_getElem? hl)
    have hIn := refIn_any u l r (by omega) wq hrow
    have hin := Lib.hid (in_noR (hokA.out k v l hv hl) r)
    obtain ⟨b9, hb9⟩ : ∃ b, inB r l = b := ⟨_, rfl⟩
    rw [hb9] at hIn hin
    have hkF : (k : Int) < (Nr : Int) := by omega
    have hkN := Lib.hid hlt
    have hl' := Lib.hid hl
    have hbw' := Lib.hid hbw
    obtain ⟨xl, Nl, cl, rfl, -⟩ := hrow.opened
    clear hl hv hrow hbw hb9 hl100
    go_wp2_with fail
    refine hIn.mono ?_
    clear hIn
    rintro e w3 ⟨rfl, hb3⟩
    have hB3 := Lib.hid (hbw'.out.trans (hb3.mono hbw'.out.size))
    clear hb3
    cases b9
    · have hn2 : Hid (∀ z ∈ S.rows.take (k + 1), noR r z = true) := Lib.hid (by
       intro z hz
       rw [List.take_add_one, hl'.out] at hz
       rcases List.mem_append.1 hz with h1 | h1
       · exact hno.out z h1
       · have : z = l := by simpa using h1
         subst this
         simpa using hin.out.symm)
      go_wp2
      go_roundw
      case rel => exact ⟨k + 1, hkN.out, by go_num, hn2, hB3.out⟩
      case measure => simp [intOf]; omega
    · have he : Hid (waysS S r = []) := Lib.hid (ways_out (by
       unfold clearS
       have h0 : noR r l = false := by simpa using hin.out.symm
       have h3 : ¬ whereV S.rows r < 0 := fun h => by
        have := where_neg.1 h l (List.mem_of_getElem? hl'.out)
        rw [h0] at this; cases this
       rw [decide_eq_false h3, Bool.and_false]))
      go_wp2
      refine bodyPost_ret (v := .slice none 0 0) (by simp [results, Tryz.results29, go_sem]) rfl ?_
      exact ⟨⟨_, rfl, by rw [he.out]; exact RowB.nil _ _ _⟩, hB3.out⟩
  · obtain rfl : k = Nr := by omega
    have hnoA : Hid (∀ z ∈ S.rows, noR r z = true) := Lib.hid (by
     have := hno.out
     rw [List.take_of_length_le (Nat.le_of_eq hNr.out)] at this
     exact this)
    have hyes : Hid (waysS S r = waysA S r S.vs.length) := Lib.hid (ways_yes hb'.out (by unfold clearS; rw [hinT.out, decide_eq_true (where_neg.2 hnoA.out)]; rfl))
    have hB2 := Lib.hid hbw
    clear hno hbw
    go_wp2
    go_loopw [10, 11] (fun u c wr => ∃ k2 : Nat, k2 ≤ k ∧ c = .int .i64 k2 ∧ wr.ownsRow w.heap.size 64 4 u (waysA S r k2).length (flatQ (waysA S r k2)) ∧ Below w.heap.size w wr)
     (fun _ c _ => k - (intOf c).toNat)
    case atStart => exact ⟨0, Nat.zero_le _, rfl, by simpa [flatQ, waysA] using World.ownsRow_nil _ _ _ _, hB2.out⟩
    case round =>
     clear hB2
     obtain ⟨wi, hwi⟩ : ∃ wi, wi = wr := ⟨_, rfl⟩
     subst hwi
     obtain ⟨z, hz, rfl, hown, hbw⟩ := hrel
     by_cases hlt : z < k
     · obtain ⟨v, hv⟩ : ∃ v, S.vs[z]? = some v := ⟨S.vs[z]'(by rw [hNf.out]; exact hlt), List.getElem?_eq_getElem _⟩
       obtain ⟨l, hl⟩ : ∃ l, S.rows[z]? = some l := ⟨S.rows[z]'(by rw [hNr.out]; exact hlt), List.getElem?_eq_getElem _⟩
       obtain ⟨gv, ov, rfl, hgv0, z0, z1, z2, z3, z4⟩ := Vhs.at hF'.out hv
       obtain ⟨gr, orr, u9, rfl, hgr0, hru0, hrow0⟩ := Rws.at hR'.out hl
       obtain ⟨xl, Nl, cl, rfl, hNl0, -, hlc1, hlc2⟩ := hrow0.opened
       have hq6 : Hid (∀ W, Below w.heap.size w W → gv < W.heap.size ∧ (W.cell? ⟨gv, ov + z * 5, none⟩ = some (.int .i64 v.hx) ∧ W.cell? ⟨gv, ov + z * 5 + 1, none⟩ = some (.int .i64 v.hy) ∧ W.cell? ⟨gv, ov + z * 5 + 2, none⟩ = some (.int .i64 v.cp) ∧ W.cell? ⟨gv, ov + z * 5 + 3, none⟩ = some (.int .i64 v.st) ∧ W.cell? ⟨gv, ov + z * 5 + 4, none⟩ = some (.int .i64 v.en))) := Lib.hid (fun W hW =>
        ⟨Nat.lt_of_lt_of_le hgv0 hW.size, (hW.cell (p := ⟨gv, ov + z * 5, none⟩) hgv0).trans z0, (hW.cell (p := ⟨gv, ov + z * 5 + 1, none⟩) hgv0).trans z1, (hW.cell (p := ⟨gv, ov + z * 5 + 2, none⟩) hgv0).trans z2, (hW.cell (p := ⟨gv, ov + z * 5 + 3, none⟩) hgv0).trans z3, (hW.cell (p := ⟨gv, ov + z * 5 + 4, none⟩) hgv0).trans z4⟩)
       have hr6 : Hid (∀ W, Below w.heap.size w W → gr < W.heap.size ∧ W.cell? ⟨gr, orr + z, none⟩ = some (.slice xl Nl cl)) := Lib.hid (fun W hW => ⟨Nat.lt_of_lt_of_le hgr0 hW.size, (hW.cell (p := ⟨gr, orr + z, none⟩) hgr0).trans hru0⟩)
       have hrow6 : Hid (Row w.heap.size w (.slice xl Nl cl) l) := Lib.hid hrow0
       have hrow := hrow0.on hbw
       obtain ⟨hgv, q0, q1, q2, q3, q4⟩ := hq6.out wi hbw
       obtain ⟨hgr, hru⟩ := hr6.out wi hbw
       clear z0 z1 z2 z3 z4 hru0 hrow0 hgv0 hgr0
       unfold maxLen at hlc2
       obtain ⟨hd0, he0, -⟩ := ok_dr (hokA.out z v l hv hl)
       have hl16 : Nl ≤ 16 := by rw [← hNl0.out]; exact hd0.hn
       have hnl := Lib.hid (hnum'.out l (List.mem_of_getElem? hl))
       have hd := Lib.hid hd0
       have he := Lib.hid he0
       have hall := Lib.hid (inK_all (r := r) hv hl)
       have hNl := Lib.hid hNl0.out
       have hkF : (z : Int) < (k : Int) := by omega
       have hkN := Lib.hid hlt
       have hz4 := Lib.hid (show z ≤ 4 by omega)
       have hbw' := Lib.hid hbw
       have hsz := hbw.size
       have hrow' := Lib.hid hrow
       have hTw : Hid (Rqs wi.heap.size wi (.slice xt Nt ct) S.t) := Lib.hid (hT'.out.on hbw)
       have hown' := Lib.hid hown
       obtain ⟨H, hH⟩ : ∃ H, homeT v l S.t = H := ⟨_, rfl⟩
       have hHb : 0 ≤ H ∧ H ≤ 3000000 := by rw [← hH]; exact homeT_bd v l S.t
       have hH' := Lib.hid hH
       clear hv hl hrow hbw hown hH hd0 he0 hNl0
       go_upto_region 12 with fail
       refine Sched.wp_region_sched 16 (fun W W' => Below W.heap.size W W') (VK [.val (.slice (some ⟨gv, ov, none⟩) k cf), .val (.int .i64 z), .val (.pointer (some ⟨gv, ov + z * 5, none⟩)), .val (.agg #[.int .i64 v.hx, .int .i64 v.hy, .int .i64 v.cp, .int .i64 v.st, .int .i64 v.en]), .val (.slice (some ⟨gr, orr, none⟩) k cr), .val (.int .i64 z), .val (.pointer (some ⟨gr, orr + z, none⟩)), .val (.slice xl Nl cl), .val (.slice xt Nt ct), .of (fun x _ => ∃ y M d, x = .tuple #[.slice y M d, .int .i64 H, .int .i64 0]) (fun h _ => h), .of (fun x _ => ∃ y M d, x = .tuple #[.slice y M d, .int .i64 H, .int .i64 0]) (fun h _ => h), .of (fun _ _ => True) (fun _ _ => trivial), .val (.int .i64 H), .val (.int .i64 0), .of (fun _ _ => True) (fun _ _ => trivial), .val (.int .i64 H)]) (fun _ _ _ => True) (by kernel_rfl) (by kernel_rfl) (by kernel_rfl) (fun h1 h2 => belowTr h1 h2) (fun h1 h2 => VK.keep h1 h2) (Below.refl _ _).drew (fun _ => trivial) (Sched.StepsA.steps (by kernel_rfl) ?hSA) ?hQA
       case hSA =>
        simp only [List.take_succ_cons, List.take_zero]
        refine ⟨?_, ?_, ?_, ?_, ?_, ?_, ?_, ?_, ?_, ?_, ?_, ?_, ?_, ?_, ?_, ?_, trivial⟩
        · intro ys done W aa hE hn hF hD hZ hG hO
          replace hE : Below wi.heap.size wi W := hE
          have o0 := hO 0 (by kernel_rfl)
          replace o0 : aa.tmps[0]? = some (.slice (some ⟨gv, ov, none⟩) k cf) := o0
          go_wp2_with fail
          first | exact ⟨_, rfl, Below.refl _ _, VK.val rfl rfl, trivial⟩ | exact ⟨_, rfl, Below.refl _ _, VK.val rfl rfl⟩
        · intro ys done W aa hE hn hF hD hZ hG hO
          replace hE : Below wi.heap.size wi W := hE
          have o11 := hO 11 (by kernel_rfl)
          replace o11 : aa.tmps[11]? = some (.int .i64 z) := o11
          go_wp2_with fail
          first | exact ⟨_, rfl, Below.refl _ _, VK.val rfl rfl, trivial⟩ | exact ⟨_, rfl, Below.refl _ _, VK.val rfl rfl⟩
        · intro ys done W aa hE hn hF hD hZ hG hO
          replace hE : Below wi.heap.size wi W := hE
          have v0 := (hF 0 (by decide) (hD 0 (by kernel_rfl))).eq rfl
          have g0 := hG 0 57 rfl (Nat.le_of_ble_eq_true rfl)
          rw [v0] at g0
          have v1 := (hF 1 (by decide) (hD 1 (by kernel_rfl))).eq rfl
          have g1 := hG 1 58 rfl (Nat.le_of_ble_eq_true rfl)
          rw [v1] at g1
          go_wp2_with fail
          first | exact ⟨_, rfl, Below.refl _ _, VK.val rfl rfl, trivial⟩ | exact ⟨_, rfl, Below.refl _ _, VK.val rfl rfl⟩
        · intro ys done W aa hE hn hF hD hZ hG hO
          replace hE : Below wi.heap.size wi W := hE
          have v2 := (hF 2 (by decide) (hD 2 (by kernel_rfl))).eq rfl
          have g2 := hG 2 59 rfl (Nat.le_of_ble_eq_true rfl)
          rw [v2] at g2
          have z0 := (hE.cell (p := ⟨gv, ov + z * 5, none⟩) hgv).trans q0
          have z1 := (hE.cell (p := ⟨gv, ov + z * 5 + 1, none⟩) hgv).trans q1
          have z2 := (hE.cell (p := ⟨gv, ov + z * 5 + 2, none⟩) hgv).trans q2
          have z3 := (hE.cell (p := ⟨gv, ov + z * 5 + 3, none⟩) hgv).trans q3
          have z4 := (hE.cell (p := ⟨gv, ov + z * 5 + 4, none⟩) hgv).trans q4
          go_wp2_with fail
          first | exact ⟨_, rfl, Below.refl _ _, VK.val rfl rfl, trivial⟩ | exact ⟨_, rfl, Below.refl _ _, VK.val rfl rfl⟩
        · intro ys done W aa hE hn hF hD hZ hG hO
          replace hE : Below wi.heap.size wi W := hE
          have o1 := hO 1 (by kernel_rfl)
          replace o1 : aa.tmps[1]? = some (.slice (some ⟨gr, orr, none⟩) k cr) := o1
          go_wp2_with fail
          first | exact ⟨_, rfl, Below.refl _ _, VK.val rfl rfl, trivial⟩ | exact ⟨_, rfl, Below.refl _ _, VK.val rfl rfl⟩
        · intro ys done W aa hE hn hF hD hZ hG hO
          replace hE : Below wi.heap.size wi W := hE
          have o11 := hO 11 (by kernel_rfl)
          replace o11 : aa.tmps[11]? = some (.int .i64 z) := o11
          go_wp2_with fail
          first | exact ⟨_, rfl, Below.refl _ _, VK.val rfl rfl, trivial⟩ | exact ⟨_, rfl, Below.refl _ _, VK.val rfl rfl⟩
        · intro ys done W aa hE hn hF hD hZ hG hO
          replace hE : Below wi.heap.size wi W := hE
          have v4 := (hF 4 (by decide) (hD 4 (by kernel_rfl))).eq rfl
          have g4 := hG 4 61 rfl (Nat.le_of_ble_eq_true rfl)
          rw [v4] at g4
          have v5 := (hF 5 (by decide) (hD 5 (by kernel_rfl))).eq rfl
          have g5 := hG 5 62 rfl (Nat.le_of_ble_eq_true rfl)
          rw [v5] at g5
          go_wp2_with fail
          first | exact ⟨_, rfl, Below.refl _ _, VK.val rfl rfl, trivial⟩ | exact ⟨_, rfl, Below.refl _ _, VK.val rfl rfl⟩
        · intro ys done W aa hE hn hF hD hZ hG hO
          replace hE : Below wi.heap.size wi W := hE
          have v6 := (hF 6 (by decide) (hD 6 (by kernel_rfl))).eq rfl
          have g6 := hG 6 63 rfl (Nat.le_of_ble_eq_true rfl)
          rw [v6] at g6
          have z0 := (hE.cell (p := ⟨gr, orr + z, none⟩) hgr).trans hru
          go_wp2_with fail
          first | exact ⟨_, rfl, Below.refl _ _, VK.val rfl rfl, trivial⟩ | exact ⟨_, rfl, Below.refl _ _, VK.val rfl rfl⟩
        · intro ys done W aa hE hn hF hD hZ hG hO
          replace hE : Below wi.heap.size wi W := hE
          have o2 := hO 2 (by kernel_rfl)
          replace o2 : aa.tmps[2]? = some (.slice xt Nt ct) := o2
          go_wp2_with fail
          first | exact ⟨_, rfl, Below.refl _ _, VK.val rfl rfl, trivial⟩ | exact ⟨_, rfl, Below.refl _ _, VK.val rfl rfl⟩
        · intro ys done W aa hE hn hF hD hZ hG hO
          replace hE : Below wi.heap.size wi W := hE
          have v3 := (hF 3 (by decide) (hD 3 (by kernel_rfl))).eq rfl
          have g3 := hG 3 60 rfl (Nat.le_of_ble_eq_true rfl)
          rw [v3] at g3
          have v7 := (hF 7 (by decide) (hD 7 (by kernel_rfl))).eq rfl
          have g7 := hG 7 64 rfl (Nat.le_of_ble_eq_true rfl)
          rw [v7] at g7
          have v8 := (hF 8 (by decide) (hD 8 (by kernel_rfl))).eq rfl
          have g8 := hG 8 65 rfl (Nat.le_of_ble_eq_true rfl)
          rw [v8] at g8
          go_wp2_with fail
          refine (refTimes_any v _ _ l S.t (by rw [hNl.out]; omega) hnl.out W (hrow'.out.on hE) (hTw.out.on hE)).mono ?_
          rintro e W' ⟨⟨u9, rfl, hu9⟩, hb'⟩
          obtain ⟨y9, M9, d9, rfl, -⟩ := hu9.opened
          rw [hH'.out, he.out]
          replace hb' := Lib.hid hb'
          go_wp2_with fail
          first | exact ⟨_, rfl, hb'.out, VK.of rfl ⟨_, _, _, rfl⟩, trivial⟩ | exact ⟨_, rfl, hb'.out, VK.of rfl ⟨_, _, _, rfl⟩⟩
        · intro ys done W aa hE hn hF hD hZ hG hO
          replace hE : Below wi.heap.size wi W := hE
          have v9 := (hF 9 (by decide) (hD 9 (by kernel_rfl))).get rfl
          have g9 := hG 9 66 rfl (Nat.le_of_ble_eq_true rfl)
          go_wp2_with fail
          first | exact ⟨_, rfl, Below.refl _ _, VK.of rfl v9, trivial⟩ | exact ⟨_, rfl, Below.refl _ _, VK.of rfl v9⟩
        · intro ys done W aa hE hn hF hD hZ hG hO
          replace hE : Below wi.heap.size wi W := hE
          have v10 := (hF 10 (by decide) (hD 10 (by kernel_rfl))).get rfl
          have g10 := hG 10 56 rfl (Nat.le_of_ble_eq_true rfl)
          obtain ⟨y9, M9, d9, e9⟩ := v10
          rw [e9] at g10
          go_wp2_with fail
          first | exact ⟨_, rfl, Below.refl _ _, VK.of rfl trivial, trivial⟩ | exact ⟨_, rfl, Below.refl _ _, VK.of rfl trivial⟩
        · intro ys done W aa hE hn hF hD hZ hG hO
          replace hE : Below wi.heap.size wi W := hE
          have v10 := (hF 10 (by decide) (hD 10 (by kernel_rfl))).get rfl
          have g10 := hG 10 56 rfl (Nat.le_of_ble_eq_true rfl)
          obtain ⟨y9, M9, d9, e9⟩ := v10
          rw [e9] at g10
          go_wp2_with fail
          first | exact ⟨_, rfl, Below.refl _ _, VK.val rfl rfl, trivial⟩ | exact ⟨_, rfl, Below.refl _ _, VK.val rfl rfl⟩
        · intro ys done W aa hE hn hF hD hZ hG hO
          replace hE : Below wi.heap.size wi W := hE
          have v10 := (hF 10 (by decide) (hD 10 (by kernel_rfl))).get rfl
          have g10 := hG 10 56 rfl (Nat.le_of_ble_eq_true rfl)
          obtain ⟨y9, M9, d9, e9⟩ := v10
          rw [e9] at g10
          go_wp2_with fail
          first | exact ⟨_, rfl, Below.refl _ _, VK.val rfl rfl, trivial⟩ | exact ⟨_, rfl, Below.refl _ _, VK.val rfl rfl⟩
        · intro ys done W aa hE hn hF hD hZ hG hO
          replace hE : Below wi.heap.size wi W := hE
          have v11 := (hF 11 (by decide) (hD 11 (by kernel_rfl))).get rfl
          have g11 := hG 11 67 rfl (Nat.le_of_ble_eq_true rfl)
          go_wp2_with fail
          first | exact ⟨_, rfl, Below.refl _ _, VK.of rfl trivial, trivial⟩ | exact ⟨_, rfl, Below.refl _ _, VK.of rfl trivial⟩
        · intro ys done W aa hE hn hF hD hZ hG hO
          replace hE : Below wi.heap.size wi W := hE
          have v12 := (hF 12 (by decide) (hD 12 (by kernel_rfl))).eq rfl
          have g12 := hG 12 68 rfl (Nat.le_of_ble_eq_true rfl)
          rw [v12] at g12
          go_wp2_with fail
          first | exact ⟨_, rfl, Below.refl _ _, VK.val rfl rfl, trivial⟩ | exact ⟨_, rfl, Below.refl _ _, VK.val rfl rfl⟩
       case hQA =>
        intro ys w6 hE hF _
        replace hE : Below wi.heap.size wi w6 := hE
        have v13 := (hF 13 (by decide)).eq rfl
        have v15 := (hF 15 (by decide)).eq rfl
        simp only [List.take_succ_cons, List.take_zero, List.drop_succ_cons, List.drop_zero, Sched.fill, v13, v15]
        clear hF v13 v15 
        go_simp
        have hB6 := Lib.hid (hbw'.out.trans (hE.mono hsz))
        have hO6 := Lib.hid (owns_below hown'.out hE)
        have hpairs : Hid (pairsL l.length = fromL Nl 0) := Lib.hid (by rw [hNl.out]; exact pairsL_in hl16)
        have hs6 := hB6.out.size
        obtain ⟨hgr6, hru6⟩ := hr6.out w6 hB6.out
        clear hE hgv q0 q1 q2 q3 q4 hgr hru hown' hrow' hTw hsz hbw'
        go_wp2
        go_loopw [10, 15] (fun u c wr => ∃ (pre : List (Int × Int)) (i : Nat), c = .int .i64 i ∧ i ≤ Nl + 1 ∧ Hid (fromL Nl 0 = pre ++ fromL Nl i) ∧ wr.ownsRow w.heap.size 64 4 u (inK S r z v l pre).length (flatQ (inK S r z v l pre)) ∧ Below w.heap.size w wr)
         (fun _ c _ => Nl + 1 - (intOf c).toNat)
        case atStart => exact ⟨[], 0, rfl, Nat.zero_le _, Lib.hid rfl, by rw [inK_nil]; exact hO6.out, hB6.out⟩
        case round =>
         clear hO6 hgr6 hru6
         obtain ⟨wa, hwa⟩ : ∃ wa, wa = wr := ⟨_, rfl⟩
         subst hwa
         obtain ⟨pre, i, rfl, hi1, hx, hown, hba⟩ := hrel
         obtain ⟨hgra, hra⟩ := hr6.out wa hba
         by_cases hli : i ≤ Nl
         · have hx2 : Hid (fromL Nl 0 = pre ++ (rowL Nl i i ++ fromL Nl (i + 1))) := Lib.hid (by rw [hx.out, fromL_cons hli])
           have hliI : (i : Int) ≤ (Nl : Int) := by omega
           have hown' := Lib.hid hown
           have hba' := Lib.hid hba
           clear hx hown hba
           go_wp2
           go_loopw [10, 16] (fun u c wr => ∃ (pre : List (Int × Int)) (j : Nat), c = .int .i64 j ∧ i ≤ j ∧ j ≤ Nl + 1 ∧ Hid (fromL Nl 0 = pre ++ (rowL Nl i j ++ fromL Nl (i + 1))) ∧ wr.ownsRow w.heap.size 64 4 u (inK S r z v l pre).length (flatQ (inK S r z v l pre)) ∧ Below w.heap.size w wr)
            (fun _ c _ => Nl + 1 - (intOf c).toNat)
           case atStart => exact ⟨pre, i, rfl, Nat.le_refl _, by omega, hx2, hown'.out, hba'.out⟩
           case round =>
            clear hown' hx2 hba' hra hgra pre
            obtain ⟨wb, hwb⟩ : ∃ wb, wb = wr := ⟨_, rfl⟩
            subst hwb
            obtain ⟨pre, j, rfl, hij, hj1, hx, hown, hbb⟩ := hrel
            obtain ⟨hgrb, hrb⟩ := hr6.out wb hbb
            by_cases hlj : j ≤ Nl
            · have hx2 : Hid (fromL Nl 0 = (pre ++ [((i : Int), (j : Int))]) ++ (rowL Nl i (j + 1) ++ fromL Nl (i + 1))) := Lib.hid (by rw [hx.out, rowL_cons hlj, List.append_assoc]; rfl)
              have hpl := inK_len (S := S) (r := r) (v := v) hz4.out (hpairs.out.trans hx.out)
              have hljI : (j : Int) ≤ (Nl : Int) := by omega
              have hjN : Hid (j + 1 ≤ Nl + 1) := Lib.hid (by omega)
              have hW := refWith_any _ l r i j (by rw [hNl.out]; omega) wb (hrow6.out.on hbb)
              obtain ⟨bm, hbm⟩ : ∃ b, mayW l r i j = b := ⟨_, rfl⟩
              rw [hbm] at hW
              have hbm' := Lib.hid hbm
              have hown' := Lib.hid hown
              have hbb' := Lib.hid hbb
              have hsb := hbb.size
              clear hx hown hbb hbm
              go_wp2_with fail
              refine hW.mono ?_
              clear hW
              rintro e w3 ⟨⟨u3, rfl, hu3⟩, hb3⟩
              have hB3 := Lib.hid (hbb'.out.trans (hb3.mono hsb))
              have hO3 := Lib.hid (owns_below hown'.out hb3)
              obtain ⟨xu, Nu, cu, rfl, -⟩ := hu3.opened
              have hu3' := Lib.hid hu3
              clear hb3 hu3 hown' hbb' hrb hgrb
              cases bm
              · have hh := Lib.hid (inK_no (S := S) (k := z) (pre := pre) (rise_no (v := v) (t := S.t) hbm'.out))
                go_wp2
                go_roundw
                case rel => exact ⟨pre ++ [((i : Int), (j : Int))], j + 1, by go_num, by omega, hjN.out, hx2, by rw [hh.out]; exact hO3.out, hB3.out⟩
                case measure => simp [intOf]; omega
              have hmr := Lib.hid (rise_ok hd.out hbm'.out hinT.out)
              have hml := Lib.hid (moreL_length hbm'.out)
              have hmn : Hid (Nums (moreL l r i j)) := Lib.hid (moreL_nums hnl.out hrI.out)
              have hrv := Lib.hid (fun h : riseE v l S.t r i j = 0 => riseV_ok h)
              have hm14 := (mayW_iff.1 hbm'.out).2.2.2.2.1
              have huM := hu3'.out
              rw [withV_more hbm'.out] at huM
              obtain ⟨M, hM⟩ : ∃ M, moreL l r i j = M := ⟨_, rfl⟩
              rw [hM] at hmr hml hmn hrv huM
              have huM' := Lib.hid huM
              have hMl : M.length ≤ 100 := by rw [hml.out]; omega
              have hCk := rCheck_any v _ _ M S.t hMl w3 huM (hT'.out.on hB3.out)
              obtain ⟨Fa, hFa⟩ : ∃ a, (faultV v M S.t).1 = a := ⟨_, rfl⟩
              obtain ⟨Fb, hFb⟩ : ∃ a, (faultV v M S.t).2.1 = a := ⟨_, rfl⟩
              obtain ⟨Fc, hFc⟩ : ∃ a, (faultV v M S.t).2.2 = a := ⟨_, rfl⟩
              rw [hFa, hFb, hFc] at hCk
              have hFa' := Lib.hid hFa
              obtain ⟨hgv3, p0, p1, p2, p3, p4⟩ := hq6.out w3 hB3.out
              have hMl' := Lib.hid hMl
              have hs3 := hB3.out.size
              clear hFa hFb hFc hM huM hm14 hMl hu3'
              go_wp2_with fail
              refine hCk.mono ?_
              clear hCk p0 p1 p2 p3 p4 hgv3
              rintro e w4 ⟨rfl, hb4⟩
              have hB4 := Lib.hid (hB3.out.trans (hb4.mono hs3))
              have hO4 := Lib.hid (owns_below hO3.out hb4)
              have hu4 := Lib.hid (huM'.out.on hb4)
              have hs4 := hB4.out.size
              clear hb4 hB3 hO3 huM' hs3 hsb
              go_upto_region 22 with fail
              obtain ⟨w5, hw5⟩ : ∃ w5, w4.alloc (.cells #[.int .i64 Fa, .int .i64 Fb, .int .i64 Fc] 126) = w5 := ⟨_, rfl⟩
              have hP5 : At w5 w4.heap.size 126 #[.int .i64 Fa, .int .i64 Fb, .int .i64 Fc] := by rw [← hw5]; exact At.new _ _ _
              have hb5 : Below w4.heap.size w4 w5 := by rw [← hw5]; exact (Below.refl _ _).alloc (Nat.le_refl _) _
              rw [hw5]
              obtain ⟨g5, hg5⟩ : ∃ g, w4.heap.size = g := ⟨_, rfl⟩
              have hB5 := Lib.hid (hB4.out.trans (hb5.mono hs4))
              have hO5 := Lib.hid (owns_below hO4.out hb5)
              have hu5 := Lib.hid (hu4.out.on hb5)
              have hs5 := hB5.out.size
              rw [hg5] at hP5 ⊢
              have m0 := hP5.cell 0
              simp at m0
              have hgi5 := hP5.inside
              clear hw5 hb5 hg5 hP5 hB4 hO4 hu4 hs4
              cases hFz : (Fa == 0)
              · have hFn : (Fa != 0) = true := by simp [hFz, bne]
                have hh := Lib.hid (inK_no (S := S) (k := z) (pre := pre) (v := v) (l := l) (r := r) (i := i) (j := j) (fun h0 => by
                 have := hmr.out.1 h0
                 rw [hFa'.out] at this; rw [this] at hFz; simp at hFz))
                go_wp2
                go_roundw
                case rel => exact ⟨pre ++ [((i : Int), (j : Int))], j + 1, by go_num, by omega, hjN.out, hx2, by rw [hh.out]; exact hO5.out, hB5.out⟩
                case measure => simp [intOf]; omega
              have hFn : (Fa != 0) = false := by simp [hFz, bne]
              have hrz : Hid (riseE v l S.t r i j = 0) := Lib.hid (hmr.out.2 (by rw [hFa'.out]; simpa using hFz))
              have hTi := refTimes_any v _ _ M S.t (by have := hMl'.out; omega) hmn.out w5 hu5.out (hT'.out.on hB5.out)
              obtain ⟨J, hJ⟩ : ∃ J, homeT v M S.t = J := ⟨_, rfl⟩
              obtain ⟨D, hD⟩ : ∃ D, errT v M S.t = D := ⟨_, rfl⟩
              rw [hJ, hD] at hTi
              have hJb : 0 ≤ J ∧ J ≤ 3000000 := by rw [← hJ]; exact homeT_bd v M S.t
              have hyes : Hid (inK S r z v l (pre ++ [((i : Int), (j : Int))]) = inK S r z v l pre ++ [((z : Int), ⟨i, j, J - H⟩)]) := Lib.hid (by
               rw [inK_yes hrz.out, hrv.out hrz.out, hJ, hH'.out])
              obtain ⟨hgv5, p0, p1, p2, p3, p4⟩ := hq6.out w5 hB5.out
              clear hJ hD hFz hrz
              go_wp2_with fail
              refine hTi.mono ?_
              clear hTi p0 p1 p2 p3 p4 hgv5 m0
              rintro e w7 ⟨⟨u7, rfl, hu7⟩, hb7⟩
              obtain ⟨y7, M7, d7, rfl, -⟩ := hu7.opened
              have hB7 := Lib.hid (hB5.out.trans (hb7.mono hs5))
              have hO7 := Lib.hid (owns_below hO5.out hb7)
              obtain ⟨ys, hys⟩ : ∃ ys, inK S r z v l pre = ys := ⟨_, rfl⟩
              rw [hys] at hO7 hyes hpl
              have hfl : Hid (flatQ (ys ++ [((z : Int), ⟨i, j, J - H⟩)]) = flatQ ys ++ [.int .i64 z, .int .i64 i, .int .i64 j, .int .i64 (J - H)]) := Lib.hid (flatQ_snoc _ _)
              have hown := hO7.out
              have hrw := Lib.hid (owns_row hown)
              have hs7 : w.heap.size ≤ w7.heap.size := hB7.out.size
              clear hb7 hu7 hB5 hO5 hu5 hO7 hys hs5
              go_wp2_with (at_builtin; refine wpList_append_own _ rfl _ _ 92 rfl w.heap.size 64 i0 (.agg #[.int .i64 0, .int .i64 0, .int .i64 0, .int .i64 0]) 4 32 Tryz.underlying92 hi hz0 hz1 hz2 rfl (by decide) _ _ _ rfl (hown.alloc _) ⟨w7.heap.size, 0, none⟩ 1 1 [.int .i64 z, .int .i64 i, .int .i64 j, .int .i64 (J - H)] rfl rfl (World.news_of_block (cs := #[.int .i64 z, .int .i64 i, .int .i64 j, .int .i64 (J - H)]) (t := 64) (fr := (0, 0)) (heap_alloc_new w7 _)) (by simp [Value.oneCell']) (by unfold maxLen; omega) (by omega) (by simp; omega) ?_; intro v9 w9 hown9 hgrow9 hnil9)
              have hB9 : Below w.heap.size w w9 := (hB7.out.alloc hs7 _).grown hgrow9 (by simp; omega) (fun r e => hrw.out r e)
              go_roundw
              case rel => exact ⟨pre ++ [((i : Int), (j : Int))], j + 1, by go_num, by omega, hjN.out, hx2, by rw [hyes.out, hfl.out, List.length_append]; exact hown9, hB9⟩
              case measure => simp [intOf]; omega
            · obtain rfl : j = Nl + 1 := by omega
              have hx2 : Hid (fromL Nl 0 = pre ++ fromL Nl (i + 1)) := Lib.hid (by rw [hx.out, rowL_nil (Nat.lt_succ_self _)]; rfl)
              clear hx
              go_wp2
              go_roundw
              case rel => exact ⟨pre, i + 1, by go_num, by omega, hx2, hown, hbb⟩
              case measure => simp [intOf]; omega
         · obtain rfl : i = Nl + 1 := by omega
           have hx2 : Hid (pairsL l.length = pre) := Lib.hid (by rw [hpairs.out, hx.out, fromL_nil (Nat.lt_succ_self _), List.append_nil])
           have hend : Hid (inK S r z v l pre = waysA S r (z + 1)) := Lib.hid (by rw [← hx2.out]; exact hall.out)
           clear hx
           go_wp2
           go_roundw
           case rel => exact ⟨z + 1, hkN.out, by go_num, by rw [← hend.out]; exact hown, hba⟩
           case measure => simp [intOf]; omega
     · obtain rfl : z = k := by omega
       have hr := Lib.hid (Wqs.of_owns (B := wi.heap.size) hown rfl (Nat.le_refl _))
       obtain ⟨xo, co, rfl, -⟩ := owns_slice hown
       have hy2 : Hid (waysS S r = waysA S r z) := Lib.hid (by rw [hyes.out, hNf.out])
       clear hown
       go_wp2
       refine bodyPost_ret (v := .slice xo (waysA S r z).length co) (by simp [results, Tryz.results29, go_sem]) rfl ?_
       exact ⟨⟨_, rfl, by rw [hy2.out]; exact hr.out⟩, hbw⟩
end Go.Proofs.YteclpblfleakhaaGreatDoor.Price

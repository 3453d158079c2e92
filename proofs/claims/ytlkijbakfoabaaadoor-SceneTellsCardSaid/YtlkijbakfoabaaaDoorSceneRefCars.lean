/-
  Contract of the answer's own look at the carriers.
-/
import Derived.Test.YtlkijbakfoabaaaDoorSceneRefCounts
namespace Go.Proofs.YtlkijbakfoabaaaDoor.Scene
open Go.RowKit Go.Sort Go.Proofs.YtlkijbakfoabaaaDoor.Mem
set_option linter.unusedVariables false

theorem refVehCheck (q : Vh) (w : World) : Calls Tryd.prog 40 #[.agg #[.int .i64 q.hx, .int .i64 q.hy, .int .i64 q.cp, .int .i64 q.st, .int .i64 q.en]] w
    fun e w' => e = .returned (.int .i64 q.chk) ∧ Below w.heap.size w w' := Order.refVehicle_any _ _ _ _ _ w
theorem refReqCheck (q : Rq) (w : World) : Calls Tryd.prog 26 #[.agg #[.int .i64 q.fx, .int .i64 q.fy, .int .i64 q.tx, .int .i64 q.ty, .int .i64 q.pe, .int .i64 q.pl, .int .i64 q.de, .int .i64 q.dl, .int .i64 q.ld, .int .i64 q.sv]] w
    fun e w' => e = .returned (.int .i64 q.chk) ∧ Below w.heap.size w w' := Order.refCheck_any _ _ _ _ _ _ _ _ _ _ w
theorem below_drewN {B : Nat} {a w : World} (h : Below B a w) (n : Nat) : Below B a (w.drewN n) := ⟨h.os, h.tape, h.output, h.size, h.block⟩

def fCars (s : Sc) : Int × Int × Int := firstBad (tagL 2 (carriersL s))
theorem tag_cons (p i c : Int) (l t : List (Int × Int)) : tagL p (((i, c) :: l) ++ t) = (c, p, i) :: tagL p (l ++ t) := rfl
theorem veh_bad {k : Int} {h : Vh} {l t : List (Int × Int)} (hb : (h.chk == 0) = false) : firstBad (tagL 2 (((k, h.chk) :: l) ++ t)) = (h.chk, 2, k) := fb_bad hb
theorem veh_good {k : Int} {h : Vh} {l t : List (Int × Int)} (hb : (h.chk == 0) = true) : firstBad (tagL 2 (((k, h.chk) :: l) ++ t)) = firstBad (tagL 2 (l ++ t)) := fb_good hb
theorem own_none {N k r : Int} {ps : List (Int × Int)} {l t : List (Int × Int)} (h : r < 0 ∨ N ≤ r) : firstBad (tagL 2 (((k, clmC N ps r) :: l) ++ t)) = (12, 2, k) := by
  have e : clmC N ps r = 12 := by unfold clmC; rw [btw_out (by omega)]; rfl
  rw [e]
  exact fb_bad rfl
theorem own_twice {N k r : Int} {ps : List (Int × Int)} {l t : List (Int × Int)} (h1 : 0 ≤ r) (h2 : r < N) (h : inP r ps = true) : firstBad (tagL 2 (((k, clmC N ps r) :: l) ++ t)) = (13, 2, k) := by
  have e : clmC N ps r = 13 := by unfold clmC; rw [btw_in h1 (by omega), h]; rfl
  rw [e]
  exact fb_bad rfl
theorem own_good {N k r : Int} {ps : List (Int × Int)} {l t : List (Int × Int)} (h1 : 0 ≤ r) (h2 : r < N) (h : inP r ps = false) : firstBad (tagL 2 (((k, clmC N ps r) :: l) ++ t)) = firstBad (tagL 2 (l ++ t)) := by
  have e : clmC N ps r = 0 := by unfold clmC; rw [btw_in h1 (by omega), h]; rfl
  rw [e]
  exact fb_good rfl
theorem inP_map (r k : Int) (l : List Int) : inP r (l.map fun x => (x, k)) = l.any fun x => x == r := by
  rw [Bool.eq_iff_iff]
  simp [inP]
theorem any_take_succ {l : List Int} {m : Nat} {y : Int} (r : Int) (h : l[m]? = some y) : (l.take (m + 1)).any (fun x => x == r) = ((l.take m).any (fun x => x == r) || y == r) := by
  rw [take_succ h, List.any_append]
  simp
theorem nobody_bad {s : Sc} {r m : Nat} (hr : r < s.reqs.length) (h : ownA s r s.cars.length < 0) : firstBad (tagL 2 (nobodyL s.reqs.length (pairsL 0 s.cars) r (m + 1))) = (11, 2, (r : Int)) := by
  have e : (mapP s.reqs.length (pairsL 0 s.cars) r).isSome = false := by
    rw [mapP_isSome, ← List.take_length (l := s.cars), ← ownA_pos]
    simp
    omega
  rw [nobodyL_succ, e]
  exact fb_bad rfl
theorem nobody_good {s : Sc} {r m : Nat} (hr : r < s.reqs.length) (h : ¬ ownA s r s.cars.length < 0) : firstBad (tagL 2 (nobodyL s.reqs.length (pairsL 0 s.cars) r (m + 1))) = firstBad (tagL 2 (nobodyL s.reqs.length (pairsL 0 s.cars) (r + 1) m)) := by
  have e : (mapP s.reqs.length (pairsL 0 s.cars) r).isSome = true := by
    rw [mapP_isSome, ← List.take_length (l := s.cars), ← ownA_pos, btw_in (by omega) (by omega)]
    simp
    omega
  rw [nobodyL_succ, e]
  exact fb_good rfl

set_option maxRecDepth 100000 in
set_option maxHeartbeats 8000000 in
theorem refCarriers_any (s : Sc) (vR vC vL vD : Value) (us : List (Value × Value)) (B : Nat) (w : World) (hBw : B ≤ w.heap.size) (h : SceneAt B w vR vC vL vD us s) (hcn : s.cars.length ≤ 1000000) (hrn : s.reqs.length ≤ 1000000) :
    Calls Tryd.prog 28 #[.agg #[vR, vC, vL, .int .i64 s.cm, .int .i64 s.rv, .int .i64 s.sch, vD]] w fun e w' => e = .returned (faultOf (fCars s)) ∧ Below w.heap.size w w' := by
  have hRV := h.reqs
  have hCV := h.cars.row
  have hus := h.cars.len
  have hLV := h.lots
  have hDV := h.draws
  obtain ⟨xR, capR, rfl, hlenR, hcapR, _⟩ := hRV
  obtain ⟨xC, capC, rfl, hlenC, hcapC, _⟩ := hCV
  obtain ⟨xL, capL, rfl, hlenL, hcapL, _⟩ := hLV
  obtain ⟨xD, capD, rfl, hlenD, hcapD⟩ := hDV
  simp only [List.length_map, hus] at hlenR hlenC hlenL h ⊢
  unfold maxLen at hcapR hcapC hcapL hcapD
  have hB : Below w.heap.size w ((w.alloc (.cells #[.slice xR s.reqs.length capR, .slice xC s.cars.length capC, .slice xL s.lots.length capL, .int .i64 s.cm, .int .i64 s.rv, .int .i64 s.sch, .slice xD s.draws capD] 33)).alloc (.cells #[.int .i64 0, .int .i64 0, .int .i64 0] 43)) := ((Below.refl _ _).alloc (Nat.le_refl _) _).alloc (by simp) _
  have hS := Lib.hid (fun W (hb : Below w.heap.size w W) => h.keep hb hBw)
  have hP : At ((w.alloc (.cells #[.slice xR s.reqs.length capR, .slice xC s.cars.length capC, .slice xL s.lots.length capL, .int .i64 s.cm, .int .i64 s.rv, .int .i64 s.sch, .slice xD s.draws capD] 33)).alloc (.cells #[.int .i64 0, .int .i64 0, .int .i64 0] 43)) w.heap.size 33 #[.slice xR s.reqs.length capR, .slice xC s.cars.length capC, .slice xL s.lots.length capL, .int .i64 s.cm, .int .i64 s.rv, .int .i64 s.sch, .slice xD s.draws capD] := (At.new _ _ _).alloc _
  have hR : At ((w.alloc (.cells #[.slice xR s.reqs.length capR, .slice xC s.cars.length capC, .slice xL s.lots.length capL, .int .i64 s.cm, .int .i64 s.rv, .int .i64 s.sch, .slice xD s.draws capD] 33)).alloc (.cells #[.int .i64 0, .int .i64 0, .int .i64 0] 43)) (w.heap.size + 1) 43 #[.int .i64 0, .int .i64 0, .int .i64 0] := At.new_ _ _ _ (by simp)
  have hz : w.heap.size + 2 ≤ (((w.alloc (.cells #[.slice xR s.reqs.length capR, .slice xC s.cars.length capC, .slice xL s.lots.length capL, .int .i64 s.cm, .int .i64 s.rv, .int .i64 s.sch, .slice xD s.draws capD] 33)).alloc (.cells #[.int .i64 0, .int .i64 0, .int .i64 0] 43))).heap.size := by simp
  clear h hus
  go_enter Tryd.func28, Tryd.ntmps28
  go_upto_region 2 with fail
  generalize ((w.alloc (.cells #[.slice xR s.reqs.length capR, .slice xC s.cars.length capC, .slice xL s.lots.length capL, .int .i64 s.cm, .int .i64 s.rv, .int .i64 s.sch, .slice xD s.draws capD] 33)).alloc (.cells #[.int .i64 0, .int .i64 0, .int .i64 0] 43)) = w1 at *
  go_loopw [3] (fun i wr => ∃ (k : Nat) (rest : List Cr), i = .int .i64 k ∧ s.cars.drop k = rest ∧ k ≤ s.cars.length ∧ fCars s = firstBad (tagL 2 (carsL s.reqs.length k (pairsL 0 (s.cars.take k)) rest ++ nobodyL s.reqs.length (pairsL 0 s.cars) 0 s.reqs.length)) ∧ Below w.heap.size w wr ∧ At wr w.heap.size 33 #[.slice xR s.reqs.length capR, .slice xC s.cars.length capC, .slice xL s.lots.length capL, .int .i64 s.cm, .int .i64 s.rv, .int .i64 s.sch, .slice xD s.draws capD] ∧ At wr (w.heap.size + 1) 43 #[.int .i64 0, .int .i64 0, .int .i64 0] ∧ w.heap.size + 2 ≤ wr.heap.size) (fun i _ => s.cars.length - (intOf i).toNat)
  case atStart => exact ⟨0, s.cars, rfl, rfl, Nat.zero_le _, rfl, hB, hP, hR, hz⟩
  case round =>
    clear hB hP hR hz
    obtain ⟨k, rest, rfl, hdr, hkl, hF, hB, hP, hR, hz⟩ := hrel
    cases rest with
    | nil =>
      have hk := drop_nil hdr
      have hk2 : ¬ (k < s.cars.length) := by omega
      have hF2 := Lib.hid (hF.trans (show _ = firstBad (tagL 2 (nobodyL s.reqs.length (pairsL 0 s.cars) 0 s.reqs.length)) by simp [carsL]))
      clear hdr hF
      have p0 := hP.cell 0
      have p1 := hP.cell 1
      simp at p0 p1
      go_wp2_with fail
      go_loopw [10] (fun i wr => ∃ (r m : Nat), i = .int .i64 r ∧ r + m = s.reqs.length ∧ fCars s = firstBad (tagL 2 (nobodyL s.reqs.length (pairsL 0 s.cars) r m)) ∧ Below w.heap.size w wr ∧ At wr w.heap.size 33 #[.slice xR s.reqs.length capR, .slice xC s.cars.length capC, .slice xL s.lots.length capL, .int .i64 s.cm, .int .i64 s.rv, .int .i64 s.sch, .slice xD s.draws capD] ∧ At wr (w.heap.size + 1) 43 #[.int .i64 0, .int .i64 0, .int .i64 0] ∧ w.heap.size + 2 ≤ wr.heap.size) (fun i _ => s.reqs.length - (intOf i).toNat)
      case atStart => exact ⟨0, s.reqs.length, rfl, by omega, hF2.out, hB, hP, hR, hz⟩
      case round =>
        clear hB hP hR hz hF2 p0 p1
        obtain ⟨r, m, rfl, hrm, hF, hB, hP, hR, hz⟩ := hrel
        have p0 := hP.cell 0
        have p1 := hP.cell 1
        have p2 := hP.cell 2
        have p3 := hP.cell 3
        have p4 := hP.cell 4
        have p5 := hP.cell 5
        have p6 := hP.cell 6
        simp at p0 p1 p2 p3 p4 p5 p6
        cases m with
        | zero =>
          have hk3 : ¬ (r < s.reqs.length) := by omega
          have hE := Lib.hid (hF.trans (show _ = (0, 0, 0) from rfl))
          clear hF hrm
          have q0 := hR.free 0
          have q1 := hR.free 1
          have q2 := hR.free 2
          have r0 := hR.cell 0
          have r1 := hR.cell 1
          have r2 := hR.cell 2
          simp at r0 r1 r2
          go_wp2
          exact bodyPost_ret (res_fault rfl rfl (put3 hR)) rfl ⟨ret_fault (hE.out), ((hB.setCell (by simp) _).setCell (by simp) _).setCell (by simp) _⟩

        | succ m =>
          have hlt : r < s.reqs.length := by omega
          have hF' := Lib.hid hF
          have hrm' := Lib.hid hrm
          clear hF hrm
          go_wp2_with fail
          refine (refOwner_any s _ _ _ _ us _ _ _ r s.cars.length (by omega) B _ (Nat.le_trans hBw hB.size) (hS.out _ hB)).mono ?_
          rintro e w2 ⟨rfl, hb2⟩
          replace hP := hP.keep hb2 hP.inside
          replace hR := hR.keep hb2 hR.inside
          replace hB := hB.trans (hb2.mono hB.size)
          have hz2 : w.heap.size + 2 ≤ w2.heap.size := Nat.le_trans hz hb2.size
          clear hb2 p0 p1 p2 p3 p4 p5 p6 hz
          by_cases ho : ownA s r s.cars.length < 0
          · have hE := Lib.hid (hF'.out.trans (nobody_bad hlt ho))
            go_wp2_with fail
            refine (refFault_any _ _ _ _).mono ?_
            rintro e wf ⟨rfl, hbf⟩
            have hRf := hR.keep hbf hR.inside
            have hBf := hB.trans (hbf.mono hB.size)
            have r0 := hRf.cell 0
            have r1 := hRf.cell 1
            have r2 := hRf.cell 2
            have q0 := hRf.free 0
            have q1 := hRf.free 1
            have q2 := hRf.free 2
            simp at r0 r1 r2
            clear hR hB hbf
            go_wp2
            exact bodyPost_ret (res_fault rfl rfl (put3 hRf)) rfl ⟨ret_fault (hE.out), ((hBf.setCell (by simp) _).setCell (by simp) _).setCell (by simp) _⟩

          · have hE := Lib.hid (hF'.out.trans (nobody_good hlt ho))
            go_wp2
            go_roundw
            case rel => exact ⟨r + 1, m, by go_num, by have := hrm'.out; omega, hE.out, hB, hP, hR, hz2⟩
            case measure => simp [intOf]; omega
    | cons q rest =>
      obtain ⟨hlt, hq, hd2⟩ := drop_cons hdr
      have hS1 := hS.out _ hB
      obtain ⟨xF, capF, xO, capO, huk, hlenF, hcapF, hlenO, hcapO, hk3⟩ := hS1.cars.get hq
      obtain ⟨g, o, rfl, hgB, hc⟩ := RowB.row hS1.cars.row hk3
      unfold maxLen at hcapF hcapO
      have c0 := hc 0 _ rfl
      have c1 := hc 1 _ rfl
      clear hc hk3 hS1
      simp at c0
      have huk' := Lib.hid huk
      have hq' := Lib.hid hq
      have hd3 := Lib.hid hd2
      have hF2 := Lib.hid (hF.trans (by rw [carsL_cons, List.append_assoc, List.append_assoc]))
      clear hdr hd2 hq huk hF
      have p1 := hP.cell 1
      simp at p1
      obtain ⟨nX, hnX⟩ : ∃ nX, wr.heap.size = nX := ⟨_, rfl⟩
      have hX := At.new_ wr 53 #[.slice xF q.fleet.length capF, .slice xO q.own.length capO] hnX.symm
      replace hP := hP.alloc (.cells #[.slice xF q.fleet.length capF, .slice xO q.own.length capO] 53)
      replace hR := hR.alloc (.cells #[.slice xF q.fleet.length capF, .slice xO q.own.length capO] 53)
      replace hB := hB.alloc hB.size (.cells #[.slice xF q.fleet.length capF, .slice xO q.own.length capO] 53)
      have hz1 : w.heap.size + 2 ≤ (wr.alloc (.cells #[.slice xF q.fleet.length capF, .slice xO q.own.length capO] 53)).heap.size := by simp; omega
      have hz2 : nX < (wr.alloc (.cells #[.slice xF q.fleet.length capF, .slice xO q.own.length capO] 53)).heap.size := by simp; omega
      have hzX : w.heap.size + 2 ≤ nX := by omega
      have hzXh := Lib.hid hz
      clear hz
      go_upto_region 6 with fail
      generalize wr.alloc (.cells #[.slice xF q.fleet.length capF, .slice xO q.own.length capO] 53) = w2 at *
      clear hnX p1 c0 c1 hzXh wr
      go_loopw [5] (fun i wr => ∃ (j : Nat) (restV : List Vh), i = .int .i64 j ∧ q.fleet.drop j = restV ∧ fCars s = firstBad (tagL 2 (vehsL k restV ++ (ownsL s.reqs.length k (pairsL 0 (s.cars.take k)) q.own ++ (carsL s.reqs.length (k + 1) (pairsL 0 (s.cars.take k) ++ pairsC k q) rest ++ nobodyL s.reqs.length (pairsL 0 s.cars) 0 s.reqs.length)))) ∧ Below w.heap.size w wr ∧ At wr w.heap.size 33 #[.slice xR s.reqs.length capR, .slice (some ⟨g, o, none⟩) s.cars.length capC, .slice xL s.lots.length capL, .int .i64 s.cm, .int .i64 s.rv, .int .i64 s.sch, .slice xD s.draws capD] ∧ At wr (w.heap.size + 1) 43 #[.int .i64 0, .int .i64 0, .int .i64 0] ∧ w.heap.size + 2 ≤ wr.heap.size ∧ At wr nX 53 #[.slice xF q.fleet.length capF, .slice xO q.own.length capO] ∧ nX < wr.heap.size) (fun i _ => q.fleet.length - (intOf i).toNat)
      case atStart => exact ⟨0, q.fleet, rfl, rfl, hF2.out, hB, hP, hR, hz1, hX, hz2⟩
      case round =>
        clear hB hP hR hz1 hX hz2 hF2
        obtain ⟨j, restV, rfl, hdr, hF, hB, hP, hR, hz, hX, hz2⟩ := hrel
        cases restV with
        | cons h restV =>
          obtain ⟨hlt2, hq2, hd4⟩ := drop_cons hdr
          obtain ⟨gF, oF, rfl, hgF, hc⟩ := RowB.row ((hS.out _ hB).cars.car k _ q huk'.out hq'.out).fleet (j := j) (r := vhV h) (by rw [List.getElem?_map, hq2]; rfl)
          have c0 := hc 0 _ rfl
          have c1 := hc 1 _ rfl
          have c2 := hc 2 _ rfl
          have c3 := hc 3 _ rfl
          have c4 := hc 4 _ rfl
          clear hc
          simp at c0
          have x0 := hX.cell 0
          simp at x0
          have hd5 := Lib.hid hd4
          have hF' := Lib.hid (hF.trans (by rw [vehsL_cons]))
          clear hdr hd4 hq2 hF
          go_wp2_with fail
          refine (refVehCheck h _).mono ?_
          rintro e w3 ⟨rfl, hb3⟩
          replace hP := hP.keep hb3 hP.inside
          replace hR := hR.keep hb3 hR.inside
          replace hX := hX.keep hb3 hX.inside
          replace hB := hB.trans (hb3.mono hB.size)
          have hz3 : w.heap.size + 2 ≤ w3.heap.size := Nat.le_trans hz hb3.size
          have hz4 : nX < w3.heap.size := Nat.lt_of_lt_of_le hz2 hb3.size
          clear hb3 c0 c1 c2 c3 c4 x0 hz hz2
          cases hg : (h.chk == 0)
          · have hg2 : (h.chk != 0) = true := by rw [bne, hg]; rfl
            have hE := Lib.hid (hF'.out.trans (veh_bad hg))
            go_wp2_with fail
            refine (refFault_any _ _ _ _).mono ?_
            rintro e wf ⟨rfl, hbf⟩
            have hRf := hR.keep hbf hR.inside
            have hBf := hB.trans (hbf.mono hB.size)
            have r0 := hRf.cell 0
            have r1 := hRf.cell 1
            have r2 := hRf.cell 2
            have q0 := hRf.free 0
            have q1 := hRf.free 1
            have q2 := hRf.free 2
            simp at r0 r1 r2
            clear hR hB hbf
            go_wp2
            exact bodyPost_ret (res_fault rfl rfl (put3 hRf)) rfl ⟨ret_fault (hE.out), ((hBf.setCell (by simp) _).setCell (by simp) _).setCell (by simp) _⟩

          · have hg2 : (h.chk != 0) = false := by rw [bne, hg]; rfl
            have hE := Lib.hid (hF'.out.trans (veh_good hg))
            go_wp2
            go_roundw
            case rel => exact ⟨j + 1, restV, by go_num, hd5.out, hE.out, hB, hP, hR, hz3, hX, hz4⟩
            case measure => simp [intOf]; omega
        | nil =>
          have hk := drop_nil hdr
          have hk2 : ¬ (j < q.fleet.length) := by omega
          have x0 := hX.cell 0
          simp at x0
          have hF2 := Lib.hid (hF.trans (show _ = firstBad (tagL 2 (ownsL s.reqs.length k (pairsL 0 (s.cars.take k) ++ (q.own.take 0).map (fun x => (x, (k : Int)))) q.own ++ (carsL s.reqs.length (k + 1) (pairsL 0 (s.cars.take k) ++ pairsC k q) rest ++ nobodyL s.reqs.length (pairsL 0 s.cars) 0 s.reqs.length))) by simp [vehsL]))
          clear hdr hF hk
          go_wp2_with fail
          go_loopw [7] (fun i wr => ∃ (j : Nat) (restO : List Int), i = .int .i64 j ∧ q.own.drop j = restO ∧ j ≤ q.own.length ∧ fCars s = firstBad (tagL 2 (ownsL s.reqs.length k (pairsL 0 (s.cars.take k) ++ (q.own.take j).map (fun x => (x, (k : Int)))) restO ++ (carsL s.reqs.length (k + 1) (pairsL 0 (s.cars.take k) ++ pairsC k q) rest ++ nobodyL s.reqs.length (pairsL 0 s.cars) 0 s.reqs.length))) ∧ Below w.heap.size w wr ∧ At wr w.heap.size 33 #[.slice xR s.reqs.length capR, .slice (some ⟨g, o, none⟩) s.cars.length capC, .slice xL s.lots.length capL, .int .i64 s.cm, .int .i64 s.rv, .int .i64 s.sch, .slice xD s.draws capD] ∧ At wr (w.heap.size + 1) 43 #[.int .i64 0, .int .i64 0, .int .i64 0] ∧ w.heap.size + 2 ≤ wr.heap.size ∧ At wr nX 53 #[.slice xF q.fleet.length capF, .slice xO q.own.length capO] ∧ nX < wr.heap.size) (fun i _ => q.own.length - (intOf i).toNat)
          case atStart => exact ⟨0, q.own, rfl, rfl, Nat.zero_le _, hF2.out, hB, hP, hR, hz, hX, hz2⟩
          case round =>
            clear hB hP hR hz hX hz2 hF2 x0 hk2
            obtain ⟨j2, restO, rfl, hdr, hj2, hF, hB, hP, hR, hz, hX, hz2⟩ := hrel
            cases restO with
            | nil =>
              have hk := drop_nil hdr
              have hk2 : ¬ (j2 < q.own.length) := by omega
              have x1 := hX.cell 1
              simp at x1
              have hF2 := Lib.hid (hF.trans (show _ = firstBad (tagL 2 (carsL s.reqs.length (k + 1) (pairsL 0 (s.cars.take (k + 1))) rest ++ nobodyL s.reqs.length (pairsL 0 s.cars) 0 s.reqs.length)) by
                rw [pairsL_take hq'.out]; simp [ownsL]))
              clear hdr hF hk
              go_wp2
              go_roundw
              case rel => exact ⟨k + 1, rest, by go_num, hd3.out, hlt, hF2.out, hB, hP, hR, hz⟩
              case measure => simp [intOf]; omega
            | cons r restO =>
              obtain ⟨hlt2, hq2, hd4⟩ := drop_cons hdr
              obtain ⟨gO, oO, rfl, hgO, hc⟩ := RowB.row ((hS.out _ hB).cars.car k _ q huk'.out hq'.out).own (j := j2) (r := inV r) (by rw [List.getElem?_map, hq2]; rfl)
              have c0 := hc 0 _ rfl
              clear hc
              simp at c0
              have x1 := hX.cell 1
              have p0 := hP.cell 0
              simp at x1 p0
              have hd5 := Lib.hid hd4
              have hr2 := Lib.hid hq2
              have hF' := Lib.hid (hF.trans (by rw [ownsL_cons]))
              clear hdr hd4 hq2 hF
              go_upto_region 14 with fail
              cases hn : decide (r < 0)
              · cases hN : decide ((s.reqs.length : Int) ≤ r)
                · have hr0 : 0 ≤ r := by have := of_decide_eq_false hn; omega
                  have hr1 : r < s.reqs.length := by have := of_decide_eq_false hN; omega
                  go_quiet (fail)
                  replace hP := hP.drewN nq
                  replace hR := hR.drewN nq
                  replace hX := hX.drewN nq
                  replace hB := below_drewN hB nq
                  have hz3 : w.heap.size + 2 ≤ (wr.drewN nq).heap.size := hz
                  have hz4 : nX < (wr.drewN nq).heap.size := hz2
                  have c0' : (wr.drewN nq).cell? ⟨gO, oO + j2, none⟩ = some (.int .i64 r) := c0
                  generalize wr.drewN nq = wq at *
                  clear c0 x1 p0 hz hz2 wr

                  have hcO := (hS.out _ hB)
                  clear hn hN
                  go_upto_region 16 with fail
                  have c0 := c0'
                  clear c0'
                  have p0 := hP.cell 0
                  have p1 := hP.cell 1
                  have p2 := hP.cell 2
                  have p3 := hP.cell 3
                  have p4 := hP.cell 4
                  have p5 := hP.cell 5
                  have p6 := hP.cell 6
                  have x1 := hX.cell 1
                  simp at p0 p1 p2 p3 p4 p5 p6 x1
                  have kc0 := cell_regrown c0
                  have kp0 := cell_regrown p0
                  have kp1 := cell_regrown p1
                  have kp2 := cell_regrown p2
                  have kp3 := cell_regrown p3
                  have kp4 := cell_regrown p4
                  have kp5 := cell_regrown p5
                  have kp6 := cell_regrown p6
                  have kx1 := cell_regrown x1
                  have kO := fun d os => Calls.regrown_of (refOwner_any s _ _ _ _ us s.cm s.rv s.sch r k (by omega) B (grow (redrawn wq d) os) (Nat.le_trans hBw (Nat.le_trans hB.size (below_regrown wq d os).size)) (hS.out _ (hB.trans ((below_regrown wq d os).mono hB.size))))
                  refine wp_region_quiet_below (by kernel_rfl) (by kernel_rfl) ?_
                  repeat (go_big_quiet_step (with_reducible exact kO _ _))
                  refine wpQuiet_nil ?_
                  intro _ hw'
                  obtain ⟨⟨dq, osq⟩, hw''⟩ := hw'
                  subst hw''
                  have hbq := below_regrown wq dq osq
                  replace hP := hP.keep hbq hP.inside
                  replace hR := hR.keep hbq hR.inside
                  replace hX := hX.keep hbq hX.inside
                  have hz5 : w.heap.size + 2 ≤ (grow (redrawn wq dq) osq).heap.size := Nat.le_trans hz3 hbq.size
                  have hz6 : nX < (grow (redrawn wq dq) osq).heap.size := Nat.lt_of_lt_of_le hz4 hbq.size
                  replace hB := hB.trans (hbq.mono hB.size)
                  generalize grow (redrawn wq dq) osq = w2 at *
                  clear kO kc0 kp0 kp1 kp2 kp3 kp4 kp5 kp6 kx1 c0 p0 p1 p2 p3 p4 p5 p6 x1 hbq hcO hz3 hz4
                  rw [ownA_pos]
                  obtain ⟨b0, hb0⟩ : ∃ b, inP r (pairsL 0 (s.cars.take k)) = b := ⟨_, rfl⟩
                  rw [hb0]
                  have hb0' := Lib.hid hb0
                  clear hb0
                  go_wp2_with fail
                  go_loopw [8, 9] (fun t i wr => ∃ (m : Nat), i = .int .i64 m ∧ m ≤ j2 ∧ t = .bool (b0 || (q.own.take m).any (fun x => x == r)) ∧ Below w.heap.size w wr ∧ At wr w.heap.size 33 #[.slice xR s.reqs.length capR, .slice (some ⟨g, o, none⟩) s.cars.length capC, .slice xL s.lots.length capL, .int .i64 s.cm, .int .i64 s.rv, .int .i64 s.sch, .slice xD s.draws capD] ∧ At wr (w.heap.size + 1) 43 #[.int .i64 0, .int .i64 0, .int .i64 0] ∧ w.heap.size + 2 ≤ wr.heap.size ∧ At wr nX 53 #[.slice xF q.fleet.length capF, .slice (some ⟨gO, oO, none⟩) q.own.length capO] ∧ nX < wr.heap.size) (fun _ i _ => j2 - (intOf i).toNat)
                  case atStart => exact ⟨0, rfl, Nat.zero_le _, by simp, hB, hP, hR, hz5, hX, hz6⟩
                  case round =>
                    clear hB hP hR hX hz5 hz6
                    obtain ⟨m, rfl, hmj, rfl, hB, hP, hR, hz5, hX, hz6⟩ := hrel
                    by_cases hml : m < j2
                    · have hmo : m < q.own.length := by omega
                      have hy : q.own[m]? = some (q.own[m]'hmo) := List.getElem?_eq_getElem hmo
                      generalize q.own[m]'hmo = y at hy
                      obtain ⟨g1, o1, e1, _, hc1⟩ := RowB.row ((hS.out _ hB).cars.car k _ q huk'.out hq'.out).own (j := m) (r := inV y) (by rw [List.getElem?_map, hy]; rfl)
                      obtain ⟨g2, o2, e2, _, hc2⟩ := RowB.row ((hS.out _ hB).cars.car k _ q huk'.out hq'.out).own (j := j2) (r := inV r) (by rw [List.getElem?_map, hr2.out]; rfl)
                      cases e1
                      cases e2
                      have d1 := hc1 0 _ rfl
                      have d2 := hc2 0 _ rfl
                      have x1 := hX.cell 1
                      simp at d1 d2 x1
                      clear hc1 hc2
                      have hsu := any_take_succ r hy
                      obtain ⟨b1, hb1⟩ : ∃ b, (b0 || (q.own.take m).any (fun x => x == r)) = b := ⟨_, rfl⟩
                      have hbn : Hid ((b0 || (q.own.take (m + 1)).any (fun x => x == r)) = (b1 || y == r)) := Lib.hid (by rw [hsu, ← Bool.or_assoc, hb1])
                      rw [hb1]
                      clear hsu hb1 hy
                      cases b1
                      · cases hyr : (y == r)
                        · have hbn2 : Hid (false = (b0 || (q.own.take (m + 1)).any (fun x => x == r))) := Lib.hid (by rw [hbn.out, hyr]; rfl)
                          go_upto_region 20 with fail
                          go_quiet (fail)
                          go_wp2
                          go_roundw
                          case rel => exact ⟨m + 1, by go_num, hml, by rw [← hbn2.out], below_drewN hB nq, hP.drewN nq, hR.drewN nq, hz5, hX.drewN nq, hz6⟩
                          case measure => simp [intOf]; omega
                        · have hbn2 : Hid (true = (b0 || (q.own.take (m + 1)).any (fun x => x == r))) := Lib.hid (by rw [hbn.out, hyr]; rfl)
                          go_upto_region 20 with fail
                          go_quiet (fail)
                          go_wp2
                          go_roundw
                          case rel => exact ⟨m + 1, by go_num, hml, by rw [← hbn2.out], below_drewN hB nq, hP.drewN nq, hR.drewN nq, hz5, hX.drewN nq, hz6⟩
                          case measure => simp [intOf]; omega
                      · have hbn2 : Hid (true = (b0 || (q.own.take (m + 1)).any (fun x => x == r))) := Lib.hid (by rw [hbn.out]; rfl)
                        go_upto_region 20 with fail
                        go_quiet (fail)
                        go_wp2
                        go_roundw
                        case rel => exact ⟨m + 1, by go_num, hml, by rw [← hbn2.out], below_drewN hB nq, hP.drewN nq, hR.drewN nq, hz5, hX.drewN nq, hz6⟩
                        case measure => simp [intOf]; omega
                    · obtain rfl : m = j2 := by omega
                      obtain ⟨b1, hb1⟩ : ∃ b, (b0 || (q.own.take m).any (fun x => x == r)) = b := ⟨_, rfl⟩
                      have hin : inP r (pairsL 0 (s.cars.take k) ++ (q.own.take m).map (fun x => (x, (k : Int)))) = b1 := by rw [inP_append, inP_map, hb0'.out, hb1]
                      rw [hb1]
                      clear hb1
                      cases b1
                      · have hE := Lib.hid (hF'.out.trans (own_good hr0 hr1 hin))
                        clear hin
                        go_wp2
                        go_roundw
                        case rel => exact ⟨m + 1, restO, by go_num, hd5.out, hlt2, by rw [hE.out, take_succ hr2.out]; simp, hB, hP, hR, hz5, hX, hz6⟩
                        case measure => simp [intOf]; omega
                      · have hE := Lib.hid (hF'.out.trans (own_twice hr0 hr1 hin))
                        clear hin
                        go_wp2_with fail
                        refine (refFault_any _ _ _ _).mono ?_
                        rintro e wf ⟨rfl, hbf⟩
                        have hRf := hR.keep hbf hR.inside
                        have hBf := hB.trans (hbf.mono hB.size)
                        have r0 := hRf.cell 0
                        have r1 := hRf.cell 1
                        have r2 := hRf.cell 2
                        have q0 := hRf.free 0
                        have q1 := hRf.free 1
                        have q2 := hRf.free 2
                        simp at r0 r1 r2
                        clear hR hB hbf
                        go_wp2
                        exact bodyPost_ret (res_fault rfl rfl (put3 hRf)) rfl ⟨ret_fault (hE.out), ((hBf.setCell (by simp) _).setCell (by simp) _).setCell (by simp) _⟩

                · have hE := Lib.hid (hF'.out.trans (own_none (.inr (of_decide_eq_true hN))))
                  go_quiet (fail)
                  replace hP := hP.drewN nq
                  replace hR := hR.drewN nq
                  replace hX := hX.drewN nq
                  replace hB := below_drewN hB nq
                  have hz3 : w.heap.size + 2 ≤ (wr.drewN nq).heap.size := hz
                  have hz4 : nX < (wr.drewN nq).heap.size := hz2
                  have c0' : (wr.drewN nq).cell? ⟨gO, oO + j2, none⟩ = some (.int .i64 r) := c0
                  generalize wr.drewN nq = wq at *
                  clear c0 x1 p0 hz hz2 wr

                  clear hn hN
                  go_wp2_with fail
                  refine (refFault_any _ _ _ _).mono ?_
                  rintro e wf ⟨rfl, hbf⟩
                  have hRf := hR.keep hbf hR.inside
                  have hBf := hB.trans (hbf.mono hB.size)
                  have r0 := hRf.cell 0
                  have r1 := hRf.cell 1
                  have r2 := hRf.cell 2
                  have q0 := hRf.free 0
                  have q1 := hRf.free 1
                  have q2 := hRf.free 2
                  simp at r0 r1 r2
                  clear hR hB hbf
                  go_wp2
                  exact bodyPost_ret (res_fault rfl rfl (put3 hRf)) rfl ⟨ret_fault (hE.out), ((hBf.setCell (by simp) _).setCell (by simp) _).setCell (by simp) _⟩

              · have hE := Lib.hid (hF'.out.trans (own_none (.inl (of_decide_eq_true hn))))
                go_quiet (fail)
                replace hP := hP.drewN nq
                replace hR := hR.drewN nq
                replace hX := hX.drewN nq
                replace hB := below_drewN hB nq
                have hz3 : w.heap.size + 2 ≤ (wr.drewN nq).heap.size := hz
                have hz4 : nX < (wr.drewN nq).heap.size := hz2
                have c0' : (wr.drewN nq).cell? ⟨gO, oO + j2, none⟩ = some (.int .i64 r) := c0
                generalize wr.drewN nq = wq at *
                clear c0 x1 p0 hz hz2 wr

                clear hn
                go_wp2_with fail
                refine (refFault_any _ _ _ _).mono ?_
                rintro e wf ⟨rfl, hbf⟩
                have hRf := hR.keep hbf hR.inside
                have hBf := hB.trans (hbf.mono hB.size)
                have r0 := hRf.cell 0
                have r1 := hRf.cell 1
                have r2 := hRf.cell 2
                have q0 := hRf.free 0
                have q1 := hRf.free 1
                have q2 := hRf.free 2
                simp at r0 r1 r2
                clear hR hB hbf
                go_wp2
                exact bodyPost_ret (res_fault rfl rfl (put3 hRf)) rfl ⟨ret_fault (hE.out), ((hBf.setCell (by simp) _).setCell (by simp) _).setCell (by simp) _⟩

end Go.Proofs.YtlkijbakfoabaaaDoor.Scene

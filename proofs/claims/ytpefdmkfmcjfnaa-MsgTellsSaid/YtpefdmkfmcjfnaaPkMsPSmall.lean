import Derived.Test.YtpefdmkfmcjfnaaPkMsEnc

namespace Go.Proofs.Ytpefdmkfmcjfnaa.Mp
open Go.RowKit Go.Sort Go.Proofs.Ytpefdmkfmcjfnaa.Mem Go.Proofs.Ytpefdmkfmcjfnaa.Route Go.Proofs.Ytpefdmkfmcjfnaa.Oct Go.Proofs.Ytpefdmkfmcjfnaa.Ms Go.Proofs.Ytpefdmkfmcjfnaa.Part
set_option linter.unusedVariables false
def betB (n a b : Int) : Bool := decide (a ≤ n) && decide (n ≤ b)
theorem between_any (n a b : Int) (w : World) : Calls Try.prog 34 #[.int .i64 n, .int .i64 a, .int .i64 b] w fun e w' => e = .returned (.bool (betB n a b)) ∧ w' = w := by
 have h := Lib.hid (show betB n a b = (decide (a ≤ n) && decide (n ≤ b)) from rfl)
 go_enter Try.func34, Try.ntmps34
 by_cases h1 : a ≤ n
 · have t1 : decide (a ≤ n) = true := decide_eq_true h1
   go_wp2
   go_ret
   exact ⟨ret_bool (by rw [h.out, t1]; rfl), rfl⟩
 · have t1 : decide (a ≤ n) = false := decide_eq_false h1
   go_wp2
   go_ret
   exact ⟨ret_bool (by rw [h.out, t1]; rfl), rfl⟩
theorem car_bet (c : Int) : betB c 0 7 = carB c := by
 rw [Bool.eq_iff_iff]
 simp [betB, carB]
 omega
theorem isCarrier_any (c : Int) (w : World) : Calls Try.prog 55 #[.int .i64 c] w fun e w' => e = .returned (.bool (carB c)) ∧ w' = w := by
 have h := Lib.hid (between_any c 0 7 w)
 rw [car_bet] at h
 go_enter Try.func55, Try.ntmps55
 go_wp2_with fail
 refine h.out.mono ?_
 rintro e w' ⟨rfl, rfl⟩
 go_wp2
 go_ret
 exact ⟨rfl, rfl⟩
theorem eqOcLit (s n : Int) (p : Nat) (w : World) : Sem.run Try.prog (Op.equalIn 10000 40 (.agg #[.int .i64 s, .int .i64 n, .int .u64 (p : Int)]) (.agg #[.int .i64 3, .int .i64 (-1), .int .u64 0])) w = .ok (ocE ⟨s, n, p⟩ ⟨3, -1, 0⟩) w := eqOc ⟨s, n, p⟩ ⟨3, -1, 0⟩ w
theorem isOutcome_any (c : Oc) (w : World) : Calls Try.prog 57 #[.agg #[.int .i64 c.st, .int .i64 c.wn, .int .u64 (c.pr : Int)]] w fun e w' => e = .returned (.bool (ocB c)) ∧ Below w.heap.size w w' := by
 obtain ⟨s, n, p⟩ := c
 have hB : Below w.heap.size w (w.alloc (.cells #[.int .i64 s, .int .i64 n, .int .u64 (p : Int)] 40)) := (Below.refl _ _).alloc (Nat.le_refl _) _
 by_cases h24 : s = 2 ∨ s = 4
 · have h3 : ¬ s = 3 := by omega
   have h := Lib.hid (show ocB ⟨s, n, p⟩ = (carB n && decide ((p : Int) ≤ 16777216)) by
    simp [ocB, h3, h24, carB]
    rw [Bool.eq_iff_iff]
    simp
    omega)
   obtain ⟨cb, hcb⟩ : ∃ cb, carB n = cb := ⟨_, rfl⟩
   have hc := fun W => isCarrier_any n W
   simp only [hcb] at hc
   rw [hcb] at h
   replace hB := Lib.hid hB
   clear hcb h3
   cases cb
   · rcases h24 with rfl | rfl
     all_goals
      go_enter Try.func57, Try.ntmps57
      go_wp2_with fail
      refine (hc _).mono ?_
      rintro e w1 ⟨rfl, rfl⟩
      go_wp2
      go_ret
      exact ⟨ret_bool (by rw [h.out]; rfl), hB.out⟩
   · rcases h24 with rfl | rfl
     all_goals
      go_enter Try.func57, Try.ntmps57
      go_wp2_with fail
      refine (hc _).mono ?_
      rintro e w1 ⟨rfl, rfl⟩
      go_wp2
      go_ret
      exact ⟨ret_bool (by rw [h.out]; simp), hB.out⟩
 · have h2 : ¬ s = 2 := fun e => h24 (.inl e)
   have h4 : ¬ s = 4 := fun e => h24 (.inr e)
   have h := Lib.hid (show ocB ⟨s, n, p⟩ = ocE ⟨s, n, p⟩ ⟨3, -1, 0⟩ by
    simp only [ocB, ocE]
    split
    · rename_i h3
      simp [h3]
    · rename_i h3
      simp [h3, h2, h4])
   have eq1 := eqOcLit s n p
   obtain ⟨R, hR⟩ : ∃ R, ocE ⟨s, n, p⟩ ⟨3, -1, 0⟩ = R := ⟨_, rfl⟩
   rw [hR] at h eq1
   replace hB := Lib.hid hB
   clear h24 hR
   go_enter Try.func57, Try.ntmps57
   go_wp2
   go_ret
   exact ⟨ret_bool (by rw [h.out]), hB.out⟩
def areM : Int → List Mk → Bool
 | _, [] => true
 | n, p :: t => betB p.1 n 7 && areM (p.1 + 1) t
theorem are_iff : ∀ (l : List Mk) (n : Int), 0 ≤ n → (areM n l = true ↔ (∀ p : Mk, l[0]? = some p → n ≤ p.1) ∧ (∀ (i : Nat) (p : Mk), l[i]? = some p → 0 ≤ p.1 ∧ p.1 < 8) ∧ ∀ (i : Nat) (p q : Mk), l[i]? = some p → l[i + 1]? = some q → p.1 < q.1)
 | [], n, _ => by simp [areM]
 | x :: t, n, hn => by
  rw [areM, Bool.and_eq_true]
  have hx : betB x.1 n 7 = true ↔ n ≤ x.1 ∧ x.1 ≤ 7 := by simp [betB]
  rw [hx]
  constructor
  · rintro ⟨⟨h1, h2⟩, h3⟩
    obtain ⟨a, b, c⟩ := (are_iff t (x.1 + 1) (by omega)).1 h3
    refine ⟨fun p hp => ?_, fun i p hp => ?_, fun i p q hp hq => ?_⟩
    · cases hp; exact h1
    · cases i with
      | zero => cases hp; omega
      | succ i => exact b i p hp
    · cases i with
      | zero =>
       cases hp
       have := a q hq
       omega
      | succ i => exact c i p q hp hq
  · rintro ⟨a, b, c⟩
    have h0 := b 0 x rfl
    refine ⟨⟨a x rfl, by omega⟩, (are_iff t (x.1 + 1) (by omega)).2 ⟨fun p hp => ?_, fun i p hp => b (i + 1) p hp, fun i p q hp hq => c (i + 1) p q hp hq⟩⟩
    have := c 0 x p rfl hp
    omega
theorem are_up (l : List Mk) : areM 0 l = upB l := by
 rw [Bool.eq_iff_iff, are_iff l 0 (by omega)]
 have hd : ∀ {i : Nat} {p : Mk}, l[i]? = some p → l.getD i (0, []) = p := fun h => by rw [List.getD_eq_getElem?_getD, h]; rfl
 constructor
 · rintro ⟨-, b, c⟩
   unfold upB
   rw [List.all_eq_true]
   intro i hi
   rw [List.mem_range] at hi
   obtain ⟨p, hp⟩ : ∃ p, l[i]? = some p := ⟨_, List.getElem?_eq_getElem hi⟩
   unfold markB
   rw [Bool.and_eq_true, hd hp, carB_iff, Bool.or_eq_true]
   refine ⟨b i p hp, ?_⟩
   cases i with
   | zero => exact .inl rfl
   | succ i =>
    obtain ⟨q, hq⟩ : ∃ q, l[i]? = some q := ⟨_, List.getElem?_eq_getElem (by omega)⟩
    refine .inr ?_
    rw [show i + 1 - 1 = i by omega, hd hq, decide_eq_true_eq]
    exact c i q p hq hp
 · intro h
   have hm : ∀ (i : Nat) (p : Mk), l[i]? = some p → 0 ≤ p.1 ∧ p.1 < 8 := fun i p hp => by
    have := up_ge h i p hp
    omega
   refine ⟨fun p hp => (hm 0 p hp).1, hm, fun i p q hp hq => ?_⟩
   have h1 := upB_at h (i := i + 1) (List.getElem?_eq_some_iff.1 hq).1
   unfold markB at h1
   rw [Bool.and_eq_true, hd hq, show i + 1 - 1 = i by omega, hd hp, Bool.or_eq_true] at h1
   simpa using h1.2
theorem are_drop {l : List Mk} {i : Nat} {p : Mk} (h : l[i]? = some p) (n : Int) : areM n (l.drop i) = (betB p.1 n 7 && areM (p.1 + 1) (l.drop (i + 1))) := by
 have hi := (List.getElem?_eq_some_iff.1 h).1
 rw [List.drop_eq_getElem_cons hi]
 rw [List.getElem?_eq_getElem hi] at h
 rw [Option.some.inj h]
 rfl
theorem zM_lit : (#[.int .i64 0, .int .u8 0, .int .u8 0, .int .u8 0, .int .u8 0, .int .u8 0, .int .u8 0, .int .u8 0, .int .u8 0, .int .u8 0, .int .u8 0, .int .u8 0, .int .u8 0, .int .u8 0, .int .u8 0, .int .u8 0, .int .u8 0, .int .u8 0, .int .u8 0, .int .u8 0, .int .u8 0, .int .u8 0, .int .u8 0, .int .u8 0, .int .u8 0, .int .u8 0, .int .u8 0, .int .u8 0, .int .u8 0, .int .u8 0, .int .u8 0, .int .u8 0, .int .u8 0] : Array Value) = (markC zM).toArray := rfl
theorem mark_one (p : Mk) : ∀ u ∈ markC p, u.oneCell' = true := by
 intro u hu
 simp only [markC, List.mem_cons, List.mem_map] at hu
 rcases hu with rfl | ⟨b, -, rfl⟩
 · rfl
 · rfl
set_option maxRecDepth 100000 in
set_option maxHeartbeats 8000000 in
theorem areMarks_any (x : Option Addr) (N cap : Nat) (l : List Mk) (h32 : ∀ p ∈ l, p.2.length = 32) (w : World) (hm : MarksAt w.heap.size w (.slice x N cap) l) :
 Calls Try.prog 56 #[.slice x N cap] w fun e w' => e = .returned (.bool (upB l)) ∧ Below w.heap.size w w' := by
 have hN := marks_len hm
 have hNm := marks_max hm
 rw [← are_up]
 replace hm := Lib.hid hm
 replace hN := Lib.hid hN
 replace h32 := Lib.hid h32
 obtain ⟨V, hV⟩ : ∃ V, areM 0 l = V := ⟨_, rfl⟩
 rw [hV]
 go_enter Try.func56, Try.ntmps56
 replace hV := Lib.hid hV
 go_wp2_with fail
 go_loopw [3, 5, 8] (fun x3 x5 c wr => ∃ (i : Nat) (n : Int), c = .int .i64 (i : Int) ∧ x3 = .int .i64 n ∧ i ≤ N ∧ 0 ≤ n ∧ n ≤ 8 ∧ Hid (areM n (l.drop i) = V) ∧ Hid (Below w.heap.size w wr))
  (fun _ _ c _ => N - (RowKit.intOf c).toNat)
 case atStart => exact ⟨0, 0, rfl, rfl, Nat.zero_le _, by omega, by omega, hV, Lib.hid (.refl _ _)⟩
 case round =>
  obtain ⟨wi, hwi⟩ : ∃ wi, wi = wr := ⟨_, rfl⟩
  subst hwi
  obtain ⟨i, n, rfl, rfl, hiN, hn0, hn8, ht, hBl⟩ := hrel
  by_cases hlt : i < N
  case neg =>
   obtain rfl : N = i := by omega
   have hs := Lib.hid (show V = true by
    have := ht.out
    rw [List.drop_eq_nil_of_le (by rw [hN.out]; exact Nat.le_refl _)] at this
    exact this.symm)
   clear hlt ht
   go_wp2
   go_ret
   exact ⟨ret_bool (by rw [hs.out]), hBl.out⟩
  have hlt' : (i : Int) < (N : Int) := by omega
  obtain ⟨p, hp⟩ : ∃ p, l[i]? = some p := ⟨_, List.getElem?_eq_getElem (by rw [hN.out]; exact hlt)⟩
  obtain ⟨g, o, rfl, hg, hpc⟩ := mark_at (hm.out.keep hBl.out (Nat.le_refl _)) hp
  have lp := h32.out p (List.mem_of_getElem? hp)
  have sp := Lib.hid (mark_size lp)
  have hst := ht.out
  rw [are_drop hp] at hst
  have hz := hBl.out.size
  obtain ⟨q, hq⟩ : ∃ q, wi.heap.size = q := ⟨_, rfl⟩
  have hA0 : AtL (wi.alloc (.cells (markC zM).toArray 65)) q 65 (markC zM) := by have := AtL.new wi 65 (markC zM); rwa [hq] at this
  have hgq : g < q := by omega
  have hA1 := hA0.row (putL (markC zM) 0 (markC p))
  have hB1 := Lib.hid (below_row (hBl.out.alloc hz (.cells (markC zM).toArray 65)) (g := q) (by rw [← hq]; exact hz) (putL (markC zM) 0 (markC p)).toArray)
  rw [put_all (by simp [markC, lp, zM, zD])] at hA1
  have hld := Lib.hid (show ∀ j v, (markC p)[j]? = some v → wi.cell? ⟨g, o + i * 33 + j, none⟩ = some v from hpc)
  have hlo := Lib.hid (show 0 + (markC p).length ≤ (markC zM).length by simp [markC, lp, zM, zD])
  have h1c := Lib.hid (mark_one p)
  replace hA0 := Lib.hid hA0
  replace hA1 := Lib.hid hA1
  have hltH := Lib.hid hlt
  replace hst := Lib.hid hst
  have hpl : (markC p).length = (markC zM).length := by simp [markC, lp, zM, zD]
  replace hpl := Lib.hid hpl
  clear hpc hlt hz lp hBl ht
  rw [← hq] at hA0 hA1 hB1
  replace hgq := Lib.hid hgq
  replace hq := Lib.hid hq
  go_upto_region 5 with (first | (refine wpList_load_part rfl 65 _ rfl g (o + i * 33) rfl (markC p) hld.out _ Try.underlying65 rfl sp.out ?_) | (rw [zM_lit]; refine wpList_store_part rfl 65 _ _ rfl wi.heap.size 0 (markC p) rfl rfl 65 (markC zM) hA0.out sp.out hlo.out h1c.out ?_))
  simp only [Act.put]
  rw [put_all hpl.out]
  have hB1 := hB1.out
  rw [put_all hpl.out] at hB1
  have hA2 : AtL ((wi.alloc (.cells (markC zM).toArray 65)).setRow wi.heap.size (markC p).toArray) wi.heap.size 65 (markC p) := hA1.out
  generalize (wi.alloc (.cells (markC zM).toArray 65)).setRow wi.heap.size (markC p).toArray = w2 at hA2 hB1 ⊢
  have c0 : w2.cell? ⟨wi.heap.size, 0, none⟩ = some (.int .i64 p.1) := hA2.get rfl
  have hb := Lib.hid (between_any p.1 n 7 w2)
  replace hB1 := Lib.hid hB1
  clear hA0 hA1 hA2 hld hlo h1c
  cases hbb : betB p.1 n 7
  · rw [hbb] at hb
    have hs := Lib.hid (show V = false by have := hst.out; rw [hbb] at this; exact this.symm)
    clear hst
    go_wp2_with fail
    refine hb.out.mono ?_
    rintro e w3 ⟨rfl, rfl⟩
    go_wp2
    go_ret
    exact ⟨ret_bool (by rw [hs.out]), hB1.out⟩
  · rw [hbb] at hb
    have hs := Lib.hid (show areM (p.1 + 1) (l.drop (i + 1)) = V by have := hst.out; rw [hbb, Bool.true_and] at this; exact this)
    have hp1 : n ≤ p.1 ∧ p.1 ≤ 7 := by simpa [betB] using hbb
    have hp2 : wrap64 (p.1 + 1) = p.1 + 1 := by unfold wrap64; omega
    clear hst
    go_wp2_with fail
    refine hb.out.mono ?_
    rintro e w3 ⟨rfl, rfl⟩
    go_wp2_with fail
    go_roundw
    case rel => exact ⟨i + 1, p.1 + 1, by go_num, rfl, by have := hltH.out; omega, by omega, by omega, hs, hB1⟩
    case measure => have := hltH.out; simp [RowKit.intOf]; omega
def tabB (m : Ms) : Bool :=
 if m.kind = 1 then betB m.req 0 63 && (betB m.rsv 0 16777216 && decide (chkR m.rq = 0))
 else if m.kind = 2 then carB m.car
 else if m.kind = 3 then upB m.marks
 else if m.kind = 4 then carB m.car && decide ((m.bid : Int) ≤ 4294967296)
 else if m.kind = 5 then ocB m.oc
 else false
theorem Check_all (r : Rq) (W : World) : Calls Try.prog 54 #[.agg (rqC r).toArray] W fun e w' => e = .returned (.int .i64 (chkR r)) ∧ Below W.heap.size W w' := Order.Check_any r.fx r.fy r.tx r.ty r.pe r.pl r.de r.dl r.ld r.sv W
set_option maxRecDepth 100000 in
set_option maxHeartbeats 16000000 in
theorem isAsTable_any (m : Ms) (x : Option Addr) (N cap : Nat) (hm : m.ok) (w : World) (hM : MarksAt w.heap.size w (.slice x N cap) m.marks) :
 Calls Try.prog 35 #[.agg (msC m (.slice x N cap)).toArray] w fun e w' => e = .returned (.bool (tabB m)) ∧ Below w.heap.size w w' := by
 have hA : AtL (w.alloc (.cells (msC m (.slice x N cap)).toArray 42)) w.heap.size 42 (msC m (.slice x N cap)) := AtL.new w _ _
 have hB : Below w.heap.size w (w.alloc (.cells (msC m (.slice x N cap)).toArray 42)) := (Below.refl _ _).alloc (Nat.le_refl _) _
 have hM1 := (hM.keep hB (Nat.le_refl _)).more hB.size
 obtain ⟨V, hV⟩ : ∃ V, tabB m = V := ⟨_, rfl⟩
 rw [hV]
 replace hV := Lib.hid hV
 go_enter Try.func35, Try.ntmps35
 go_upto_region 1 with fail
 obtain ⟨n, hn⟩ : ∃ n, w.heap.size = n := ⟨_, rfl⟩
 generalize w.alloc (.cells (msC m (.slice x N cap)).toArray 42) = W at hA hB hM1 ⊢
 rw [hn] at hA
 try simp only [hn]
 replace hn := Lib.hid hn
 have c0 := hA.get ms_kind
 replace hB := Lib.hid hB
 obtain ⟨k, hk⟩ : ∃ k, m.kind = k := ⟨_, rfl⟩
 rw [hk] at c0
 have hd := hm.dig
 by_cases y1 : k = 1
 · subst y1
   have hs0 := Lib.hid (show (betB m.req 0 63 && (betB m.rsv 0 16777216 && decide (chkR m.rq = 0))) = V by rw [← hV.out, tabB, if_pos hk])
   have c3 := hA.get ms_req
   have c4 := hA.get ms_rsv
   have b1 := fun W => between_any m.req 0 63 W
   have b2 := fun W => between_any m.rsv 0 16777216 W
   obtain ⟨B1, e1⟩ : ∃ B, betB m.req 0 63 = B := ⟨_, rfl⟩
   obtain ⟨B2, e2⟩ : ∃ B, betB m.rsv 0 16777216 = B := ⟨_, rfl⟩
   rw [e1, e2] at hs0
   simp only [e1] at b1
   simp only [e2] at b2
   replace b1 := Lib.hid b1
   replace b2 := Lib.hid b2
   replace hA := Lib.hid hA
   replace hk := Lib.hid hk
   clear e1 e2
   cases B1
   · have hs := Lib.hid (show V = false from hs0.out.symm)
     go_wp2_with fail
     refine (b1.out _).mono ?_
     rintro e w1 ⟨rfl, rfl⟩
     go_wp2
     go_ret
     exact ⟨ret_bool (by rw [hs.out]), hB.out⟩
   cases B2
   · have hs := Lib.hid (show V = false from hs0.out.symm)
     go_wp2_with fail
     refine (b1.out _).mono ?_
     rintro e w1 ⟨rfl, rfl⟩
     go_wp2_with fail
     refine (b2.out _).mono ?_
     rintro e w1 ⟨rfl, rfl⟩
     go_wp2
     go_ret
     exact ⟨ret_bool (by rw [hs.out]), hB.out⟩
   have hs := Lib.hid (show decide (chkR m.rq = 0) = V from hs0.out)
   have hC : ∀ W, Calls Try.prog 54 #[.agg (rqC m.rq).toArray] W fun e w' => e = .returned (.int .i64 (chkR m.rq)) ∧ Below W.heap.size W w' := fun W => Check_all m.rq W
   obtain ⟨E, hE⟩ : ∃ E, chkR m.rq = E := ⟨_, rfl⟩
   simp only [hE] at hC hs
   replace hC := Lib.hid hC
   clear hE
   go_upto_region 3 with fail
   refine wp_region_list ?_
   (refine BigFrame.wpList_want rfl ?_; intro K hK; replace hK := Lib.hid hK; go_wp2_with fail; refine hK.out _ _ ?_; clear hK K) -- 0
   (refine BigFrame.wpList_want rfl ?_; intro K hK; replace hK := Lib.hid hK; go_wp2_with fail; refine hK.out _ _ ?_; clear hK K) -- 1
   (refine BigFrame.wpList_want rfl ?_; intro K hK; replace hK := Lib.hid hK; go_wp2_with fail; refine (b1.out _).mono ?_; rintro e W1 ⟨rfl, rfl⟩; go_wp2_with fail; refine hK.out _ _ ?_; clear hK K)
   (refine BigFrame.wpList_want rfl ?_; intro K hK; replace hK := Lib.hid hK; go_wp2_with fail; refine hK.out _ _ ?_; clear hK K) -- 3
   (refine BigFrame.wpList_want rfl ?_; intro K hK; replace hK := Lib.hid hK; go_wp2_with fail; refine hK.out _ _ ?_; clear hK K) -- 4
   (refine BigFrame.wpList_want rfl ?_; intro K hK; replace hK := Lib.hid hK; go_wp2_with fail; refine hK.out _ _ ?_; clear hK K) -- 5
   (refine BigFrame.wpList_want rfl ?_; intro K hK; replace hK := Lib.hid hK; go_wp2_with fail; refine (b2.out _).mono ?_; rintro e W1 ⟨rfl, rfl⟩; go_wp2_with fail; refine hK.out _ _ ?_; clear hK K)
   (refine BigFrame.wpList_want rfl ?_; intro K hK; replace hK := Lib.hid hK; go_wp2_with fail; refine hK.out _ _ ?_; clear hK K) -- 7
   (refine BigFrame.wpList_want rfl ?_; intro K hK; replace hK := Lib.hid hK; go_wp2_with fail; refine hK.out _ _ ?_; clear hK K) -- 8
   (refine BigFrame.wpList_want rfl ?_; intro K hK; replace hK := Lib.hid hK; go_wp2_with fail; refine hK.out _ _ ?_; clear hK K) -- 9
   refine wpList_load_part_w rfl 35 _ rfl n 5 rfl (rqC m.rq) (fun j v hv => hA.out.get (ms_rq hv)) _ Try.underlying35 rfl (rq_size _) ?_
   go_simp
   (refine BigFrame.wpList_want rfl ?_; intro K hK; replace hK := Lib.hid hK; go_wp2_with fail; refine (hC.out _).mono ?_; rintro e W1 ⟨rfl, hb1⟩; go_wp2_with fail; refine hK.out _ _ ?_; clear hK K)
   by_cases hE0 : E = 0
   · subst hE0
     go_wp2
     go_ret
     exact ⟨ret_bool (by rw [← hs.out]; simp), hB.out.trans (hb1.mono hB.out.size)⟩
   · go_wp2
     go_ret
     exact ⟨ret_bool (by rw [← hs.out]; simp [hE0]), hB.out.trans (hb1.mono hB.out.size)⟩
 by_cases y2 : k = 2
 · subst y2
   have hs := Lib.hid (show carB m.car = V by rw [← hV.out, tabB, if_neg (by omega), if_pos hk])
   have c2 := hA.get ms_car
   have b1 := isCarrier_any m.car W
   rw [hs.out] at b1
   clear hk hA hd
   go_wp2_with fail
   refine b1.mono ?_
   rintro e w1 ⟨rfl, rfl⟩
   go_wp2
   go_ret
   exact ⟨rfl, hB.out⟩
 by_cases y3 : k = 3
 · subst y3
   have hs := Lib.hid (show upB m.marks = V by rw [← hV.out, tabB, if_neg (by omega), if_neg (by omega), if_pos hk])
   have c47 := hA.get (ms_marks hd)
   have b1 := areMarks_any x N cap m.marks hm.marks W hM1
   rw [hs.out] at b1
   clear hk hA hd
   go_wp2_with fail
   refine b1.mono ?_
   rintro e w1 ⟨rfl, hb1⟩
   go_wp2
   go_ret
   exact ⟨rfl, hB.out.trans (hb1.mono hB.out.size)⟩
 by_cases y4 : k = 4
 · subst y4
   have hs := Lib.hid (show (carB m.car && decide ((m.bid : Int) ≤ 4294967296)) = V by rw [← hV.out, tabB, if_neg (by omega), if_neg (by omega), if_neg (by omega), if_pos hk])
   have c2 := hA.get ms_car
   have c48 := hA.get (ms_bid hd)
   have b1 := isCarrier_any m.car W
   obtain ⟨B1, e1⟩ : ∃ B, carB m.car = B := ⟨_, rfl⟩
   rw [e1] at hs b1
   clear hk hA hd e1
   cases B1
   · go_wp2_with fail
     refine b1.mono ?_
     rintro e w1 ⟨rfl, rfl⟩
     go_wp2
     go_ret
     exact ⟨ret_bool (by rw [← hs.out]; rfl), hB.out⟩
   · go_wp2_with fail
     refine b1.mono ?_
     rintro e w1 ⟨rfl, rfl⟩
     go_wp2
     go_ret
     exact ⟨ret_bool (by rw [← hs.out]; simp), hB.out⟩
 by_cases y5 : k = 5
 · subst y5
   have hs := Lib.hid (show ocB m.oc = V by rw [← hV.out, tabB, if_neg (by omega), if_neg (by omega), if_neg (by omega), if_neg (by omega), if_pos hk])
   have b1 : Calls Try.prog 57 #[.agg (ocC m.oc).toArray] W fun e w' => e = .returned (.bool (ocB m.oc)) ∧ Below W.heap.size W w' := isOutcome_any m.oc W
   rw [hs.out] at b1
   have hld := Lib.hid (fun j v (hv : (ocC m.oc)[j]? = some v) => hA.get (ms_oc (v := .slice x N cap) hd hv))
   clear hk hA hd
   go_wp2_with (refine wpList_load_part rfl 40 _ rfl n 50 rfl (ocC m.oc) hld.out _ Try.underlying40 rfl (oc_size _) ?_)
   refine b1.mono ?_
   rintro e w1 ⟨rfl, hb1⟩
   go_wp2
   go_ret
   exact ⟨rfl, hB.out.trans (hb1.mono hB.out.size)⟩
 have hs := Lib.hid (show V = false by rw [← hV.out, tabB, if_neg (by omega), if_neg (by omega), if_neg (by omega), if_neg (by omega), if_neg (by omega)])
 clear hk hA hd
 go_wp2
 go_ret
 exact ⟨ret_bool (by rw [hs.out]), hB.out⟩
end Go.Proofs.Ytpefdmkfmcjfnaa.Mp

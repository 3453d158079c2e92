import Derived.Test.YtpefdmkfmcjfnaaPkDfMsg
import Derived.Test.YtpefdmkfmcjfnaaPkMsWorks
import Derived.Lib.SmallJoins

namespace Go.Proofs.Ytpefdmkfmcjfnaa.Df
open Go.RowKit Go.Sort Go.Proofs.Ytpefdmkfmcjfnaa.Mem Go.Proofs.Ytpefdmkfmcjfnaa.Route Go.Proofs.Ytpefdmkfmcjfnaa.Oct Go.Proofs.Ytpefdmkfmcjfnaa.Ms Go.Proofs.Ytpefdmkfmcjfnaa.Part Go.Proofs.Ytpefdmkfmcjfnaa.Mp
set_option linter.unusedVariables false
theorem marks_in {d : Dr} {c : Nat} {p : Mk} (h : p ∈ marksM d c) : ∃ i, i < c ∧ p = ((i : Int), digM d.bs i) := by
 simp only [marksM, List.mem_map, List.mem_filter, List.mem_range] at h
 obtain ⟨i, ⟨hi, -⟩, rfl⟩ := h
 exact ⟨i, hi, rfl⟩
theorem marks_32 (d : Dr) (c : Nat) : ∀ p ∈ marksM d c, p.2.length = 32 := by
 intro p hp
 obtain ⟨i, -, rfl⟩ := marks_in hp
 exact digM_len _ _
theorem marks_areM (f : Nat → Bool) (D : Nat → Bs) : ∀ (k b : Nat), b + k ≤ 8 → ∀ n : Int, n ≤ b → areM n (((List.range' b k).filter f).map fun (i : Nat) => ((i : Int), D i)) = true
 | 0, b, _, n, _ => by simp [areM]
 | k + 1, b, h, n, hn => by
  rw [List.range'_succ, List.filter_cons]
  split
  · rw [List.map_cons, areM, Bool.and_eq_true]
    refine ⟨by simp [betB]; omega, ?_⟩
    exact marks_areM f D k (b + 1) (by omega) _ (by simp)
  · exact marks_areM f D k (b + 1) (by omega) n (by omega)
theorem marks_up (d : Dr) : upB (marksM d 8) = true := by
 rw [← are_up, marksM, List.range_eq_range']
 exact marks_areM _ _ 8 0 (by omega) 0 (by omega)
theorem draft_ok (d : Dr) : (draftM d).ok := by
 unfold draftM
 split
 · exact ⟨rfl, fun p hp => by cases hp⟩
 split
 · exact ⟨digM_len _ _, fun p hp => by cases hp⟩
 split
 · exact ⟨rfl, marks_32 d 8⟩
 split
 · exact ⟨rfl, fun p hp => by cases hp⟩
 · exact ⟨rfl, fun p hp => by cases hp⟩
theorem draft_wide {d : Dr} (h : d.ok) : (draftM d).wide := by
 have h0 := h.b0
 have h1 := h.b1
 unfold draftM
 split
 · exact ⟨lt64, lt64, lt64⟩
 split
 · exact ⟨lt64, lt64, lt64⟩
 split
 · exact ⟨lt64, lt64, lt64⟩
 split
 · exact ⟨Nat.lt_of_le_of_lt (Nat.mod_le _ _) h0, h1, lt64⟩
 · refine ⟨lt64, lt64, ?_⟩
   show (ocM d).pr < 18446744073709551616
   unfold ocM
   split
   · exact lt64
   · exact Nat.lt_of_le_of_lt (Nat.mod_le _ _) h0
theorem draft_kind (d : Dr) : (draftM d).kind = kindD d := by
 unfold draftM
 split
 · rfl
 split
 · rfl
 split
 · rfl
 split
 · rfl
 · rfl
theorem draft_rnd (d : Dr) : (draftM d).rnd = (d.n0 : Int) % 16 := by
 unfold draftM
 split
 · rfl
 split
 · rfl
 split
 · rfl
 split
 · rfl
 · rfl
theorem draft_may {d : Dr} (h : d.ok) : mayB (draftM d) = true := by
 have hk := kind_cases d
 have h2 := h.n2
 have h3 := h.n3
 have h4 := h.n4
 have h5 := h.n5
 rw [mayB, Bool.and_eq_true, Bool.and_eq_true, decide_eq_true_eq, sameB_iff, draft_kind, draft_rnd]
 refine ⟨by omega, ?_⟩
 rcases hk with hk | hk | hk | hk | hk
 · have e : draftM d = { baseM d with req := (d.n1 : Int) % 64, rsv := (d.b0 : Int) % 16777217, rq := rqM d } := by rw [draftM, if_pos hk]
   rw [e]
   have hkk : (baseM d).kind = 1 := hk
   refine ⟨by rw [bareM, if_pos (by exact hkk)]; rfl, ?_⟩
   rw [kindB, if_pos (by exact hkk), decide_eq_true_eq]
   refine ⟨by show 0 ≤ (d.n1 : Int) % 64; omega, by show (d.n1 : Int) % 64 < 64; omega, by show 0 ≤ (d.b0 : Int) % 16777217; omega, by show (d.b0 : Int) % 16777217 ≤ 16777216; omega, ?_⟩
   show chkR (rqM d) = 0
   rw [chkR, Order.chk_iff, Place.mayB_iff, Place.mayB_iff, Window.okB_iff, Window.okB_iff]
   simp only [rqM]
   omega
 · have e : draftM d = { baseM d with car := (d.n1 : Int) % 8, dig := digM d.bs 0 } := by rw [draftM, if_neg (by omega), if_pos hk]
   rw [e]
   have hkk : (baseM d).kind = 2 := hk
   refine ⟨by rw [bareM, if_neg (by show ¬ (baseM d).kind = 1; omega), if_pos (by exact hkk)]; rfl, ?_⟩
   rw [kindB, if_neg (by show ¬ (baseM d).kind = 1; omega), if_pos (by exact hkk), carB_iff]
   show 0 ≤ (d.n1 : Int) % 8 ∧ (d.n1 : Int) % 8 < 8
   omega
 · have e : draftM d = { baseM d with marks := marksM d 8 } := by rw [draftM, if_neg (by omega), if_neg (by omega), if_pos hk]
   rw [e]
   have hkk : (baseM d).kind = 3 := hk
   refine ⟨by rw [bareM, if_neg (by show ¬ (baseM d).kind = 1; omega), if_neg (by show ¬ (baseM d).kind = 2; omega), if_pos (by exact hkk)]; rfl, ?_⟩
   rw [kindB, if_neg (by show ¬ (baseM d).kind = 1; omega), if_neg (by show ¬ (baseM d).kind = 2; omega), if_neg (by show ¬ (baseM d).kind = 4; omega), if_neg (by show ¬ (baseM d).kind = 5; omega)]
   exact marks_up d
 · have e : draftM d = { baseM d with car := (d.n1 : Int) % 8, bid := d.b0 % 4294967297, nonce := d.b1 } := by rw [draftM, if_neg (by omega), if_neg (by omega), if_neg (by omega), if_pos hk]
   rw [e]
   have hkk : (baseM d).kind = 4 := hk
   refine ⟨by rw [bareM, if_neg (by show ¬ (baseM d).kind = 1; omega), if_neg (by show ¬ (baseM d).kind = 2; omega), if_neg (by show ¬ (baseM d).kind = 3; omega), if_pos (by exact hkk)]; rfl, ?_⟩
   rw [kindB, if_neg (by show ¬ (baseM d).kind = 1; omega), if_neg (by show ¬ (baseM d).kind = 2; omega), if_pos (by exact hkk), Bool.and_eq_true, carB_iff, decide_eq_true_eq]
   refine ⟨?_, ?_⟩
   · show 0 ≤ (d.n1 : Int) % 8 ∧ (d.n1 : Int) % 8 < 8
     omega
   · show d.b0 % 4294967297 ≤ 4294967296
     omega
 · have e : draftM d = { baseM d with oc := ocM d } := by rw [draftM, if_neg (by omega), if_neg (by omega), if_neg (by omega), if_neg (by omega)]
   rw [e]
   have hkk : (baseM d).kind = 5 := hk
   refine ⟨by rw [bareM, if_neg (by show ¬ (baseM d).kind = 1; omega), if_neg (by show ¬ (baseM d).kind = 2; omega), if_neg (by show ¬ (baseM d).kind = 3; omega), if_neg (by show ¬ (baseM d).kind = 4; omega), if_pos (by exact hkk)]; rfl, ?_⟩
   rw [kindB, if_neg (by show ¬ (baseM d).kind = 1; omega), if_neg (by show ¬ (baseM d).kind = 2; omega), if_neg (by show ¬ (baseM d).kind = 4; omega), if_pos (by exact hkk)]
   show ocB (ocM d) = true
   unfold ocM
   split
   · decide
   · rename_i hz
     unfold ocB
     simp only
     rw [if_neg (by omega), decide_eq_true_eq]
     refine ⟨by omega, by omega, by omega⟩
end Go.Proofs.Ytpefdmkfmcjfnaa.Df
namespace Go.Proofs.Ytpefdmkfmcjfnaa.Ms
open Go.Proofs.Ytpefdmkfmcjfnaa.Oct
set_option linter.unusedVariables false
theorem enc_frame {m : Ms} (h : mayB m = true) : encL m = Fr.frL m.kind.toNat (bodyL m) := by rw [encL, if_pos h, frameL_eq]
theorem dec_cut {m : Ms} (hm : m.ok) (hw : m.wide) (h : mayB m = true) {c : Nat} (hc : c < (encL m).length) : decS ((encL m).take c) = (z0, 14) := by
 have hl := body_len hm (may_fits h hw)
 rw [enc_frame h] at hc ⊢
 rw [Fr.frL_length] at hc
 unfold decS
 rw [Fr.front_cut (by omega) hc]
theorem dec_more {m : Ms} (hm : m.ok) (hw : m.wide) (h : mayB m = true) {t : Bs} (ht : t ≠ []) : decS (encL m ++ t) = (z0, 15) := by
 have hh := (may_parts h).1
 have hl := body_len hm (may_fits h hw)
 rw [enc_frame h]
 unfold decS
 rw [Fr.front_lay (by omega) (by omega)]
 simp [ht]
def lenL (k : Int) (n : Nat) : Nat := if k = 1 then 34 else if k = 2 then 34 else if k = 4 then 18 else if k = 5 then 11 else 2 + 33 * n
theorem body_length {m : Ms} (hm : m.ok) : (bodyL m).length = lenL m.kind m.marks.length := by
 unfold bodyL partL lenL
 rw [List.length_append, lay1, laidL_length]
 split
 · simp only [List.length_append, lay1, laidL_length, rqL]
 split
 · simp only [List.length_append, lay1, laidL_length, hm.dig]
 split
 · simp only [List.length_append, lay1, laidL_length]
 split
 · simp only [List.length_append, lay1, laidL_length]
 · simp only [List.length_append, laidL_length, marksL_len hm.marks]; omega
theorem may_marks {m : Ms} (h : mayB m = true) (h3 : ¬ m.kind = 3) : m.marks = [] := by
 rw [(may_parts h).2.1, bare_marks, if_neg h3]
theorem enc_length {m : Ms} (hm : m.ok) (h : mayB m = true) : (encL m).length = 3 + lenL m.kind m.marks.length := by
 rw [enc_frame h, Fr.frL_length, body_length hm]
theorem enc_long {a b : Ms} (ha : a.ok) (hb : b.ok) (ma : mayB a = true) (mb : mayB b = true) (hk : a.kind = b.kind) : ((encL a).length : Int) - 33 * (a.marks.length : Int) = ((encL b).length : Int) - 33 * (b.marks.length : Int) := by
 rw [enc_length ha ma, enc_length hb mb]
 by_cases h3 : a.kind = 3
 · have h3b : b.kind = 3 := by omega
   simp only [lenL, h3, h3b]
   simp
   omega
 · rw [may_marks ma h3, may_marks mb (by omega), hk]
theorem fold_from (l : Bs) : ∀ a : Nat, l.foldl (fun a b => a * 256 + b.toNat) a = a * 2 ^ (8 * l.length) + numL l := by
 induction l with
 | nil => intro a; simp [numL]
 | cons b t ih =>
  intro a
  have e : 2 ^ (8 * (t.length + 1)) = 256 * 2 ^ (8 * t.length) := by rw [Nat.mul_add, Nat.pow_add, Nat.mul_comm]
  rw [numL, List.foldl_cons, List.foldl_cons, ih, ih, List.length_cons, e, Nat.add_mul, ← Nat.mul_assoc, Nat.zero_mul, Nat.zero_add]
  omega
theorem num_cons (b : UInt8) (t : Bs) : numL (b :: t) = b.toNat * 2 ^ (8 * t.length) + numL t := by
 have := fold_from t b.toNat
 rw [numL, List.foldl_cons, Nat.zero_mul, Nat.zero_add, this]
end Go.Proofs.Ytpefdmkfmcjfnaa.Ms
namespace Go.Proofs.Ytpefdmkfmcjfnaa.Df
open Go.RowKit Go.Sort Go.Proofs.Ytpefdmkfmcjfnaa.Mem Go.Proofs.Ytpefdmkfmcjfnaa.Route Go.Proofs.Ytpefdmkfmcjfnaa.Oct Go.Proofs.Ytpefdmkfmcjfnaa.Ms Go.Proofs.Ytpefdmkfmcjfnaa.Part Go.Proofs.Ytpefdmkfmcjfnaa.Mp
set_option linter.unusedVariables false
attribute [local go_sem] str_append str_from str_to
theorem msg_lit (d : Dr) (hd : d.ok) (x : Option Addr) (L cap : Nat) (w : World) (hb : BytesAt w.heap.size w (.slice x L cap) d.bs) :
 Calls Try.prog 10 #[.agg #[.int .u8 (d.kd : Int), .int .u16 (d.n0 : Int), .int .u16 (d.n1 : Int), .int .u16 (d.n2 : Int), .int .u16 (d.n3 : Int), .int .u16 (d.n4 : Int), .int .u16 (d.n5 : Int), .int .u16 (d.n6 : Int), .int .u16 (d.n7 : Int), .int .u64 (d.b0 : Int), .int .u64 (d.b1 : Int), .slice x L cap]] w fun e w' => ∃ y N c, e = .returned (.agg (msC (draftM d) (.slice y N c)).toArray) ∧ OwnM w.heap.size w' (.slice y N c) (draftM d).marks ∧ Below w.heap.size w w' := msg_any d hd x L cap w hb
theorem enc_max {m : Ms} (hm : m.ok) (h : mayB m = true) (hw : m.wide) : (encL m).length ≤ 1003 := by
 have h1 := body_len hm (may_fits h hw)
 rw [enc_frame h, Fr.frL_length]
 omega
theorem enc_min {m : Ms} (h : mayB m = true) : 3 ≤ (encL m).length := by
 rw [enc_frame h, Fr.frL_length]
 omega
theorem dr_cell {w : World} {n : Nat} {d : Dr} {v : Value} (h : At w n 28 (drC d v).toArray) (i : Nat) {x : Value} (hx : (drC d v)[i]? = some x) : w.cell? ⟨n, i, none⟩ = some x := by
 rw [h.cell i]
 simpa using hx
set_option maxRecDepth 100000 in
set_option maxHeartbeats 16000000 in
theorem cut_walk (d : Dr) (hd : d.ok) (x : Option Addr) (L cap : Nat) (N : Nat) (hN : N < 65536) (more : Bs) (hmore : more.length ≤ 9223372036854775000) (w : World) (hb : BytesAt w.heap.size w (.slice x L cap) d.bs) :
 Calls Try.prog 6 #[.agg (drC d (.slice x L cap)).toArray, .int .u16 (N : Int), .string (str more)] w fun e w' => e = .returned (.bool true) ∧ Below w.heap.size w w' := by
 have hA := At.new w 28 (drC d (.slice x L cap)).toArray
 have hB : Below w.heap.size w (w.alloc (.cells (drC d (.slice x L cap)).toArray 28)) := (Below.refl _ _).alloc (Nat.le_refl _) _
 obtain ⟨n, hn⟩ : ∃ n, w.heap.size = n := ⟨_, rfl⟩
 have hbW := hb.keep hB (Nat.le_refl _)
 rw [hn] at hA hB hbW
 rw [show Below w.heap.size w = Below n w by rw [hn]]
 go_enter Try.func6, Try.ntmps6
 go_upto_region 1 with fail
 try simp only [hn]
 generalize w.alloc (.cells (drC d (.slice x L cap)).toArray 28) = W at hA hB hbW ⊢
 have hnW : n < W.heap.size := hA.inside
 have hzB : n ≤ W.heap.size := Nat.le_of_lt hnW
 replace hn := Lib.hid hn
 have h1 := Lib.hid (works_any W)
 replace hB := Lib.hid hB
 replace hA := Lib.hid hA
 go_wp2_with fail
 refine h1.out.mono ?_
 rintro e w1 ⟨rfl, hb1⟩
 have hA1 := Lib.hid (At.keep hA.out hb1 hnW)
 have hbW1 := (RowB.keep hbW hb1 hzB).more (Nat.le_trans hzB hb1.size)
 have hB1 := Lib.hid (hB.out.trans (hb1.mono hzB))
 have hz1 := Nat.le_trans hzB hb1.size
 have c0 : w1.cell? ⟨n, 0, none⟩ = some (.int .u8 (d.kd : Int)) := dr_cell hA1.out 0 rfl
 have c1 : w1.cell? ⟨n, 1, none⟩ = some (.int .u16 (d.n0 : Int)) := dr_cell hA1.out 1 rfl
 have c2 : w1.cell? ⟨n, 2, none⟩ = some (.int .u16 (d.n1 : Int)) := dr_cell hA1.out 2 rfl
 have c3 : w1.cell? ⟨n, 3, none⟩ = some (.int .u16 (d.n2 : Int)) := dr_cell hA1.out 3 rfl
 have c4 : w1.cell? ⟨n, 4, none⟩ = some (.int .u16 (d.n3 : Int)) := dr_cell hA1.out 4 rfl
 have c5 : w1.cell? ⟨n, 5, none⟩ = some (.int .u16 (d.n4 : Int)) := dr_cell hA1.out 5 rfl
 have c6 : w1.cell? ⟨n, 6, none⟩ = some (.int .u16 (d.n5 : Int)) := dr_cell hA1.out 6 rfl
 have c7 : w1.cell? ⟨n, 7, none⟩ = some (.int .u16 (d.n6 : Int)) := dr_cell hA1.out 7 rfl
 have c8 : w1.cell? ⟨n, 8, none⟩ = some (.int .u16 (d.n7 : Int)) := dr_cell hA1.out 8 rfl
 have c9 : w1.cell? ⟨n, 9, none⟩ = some (.int .u64 (d.b0 : Int)) := dr_cell hA1.out 9 rfl
 have c10 : w1.cell? ⟨n, 10, none⟩ = some (.int .u64 (d.b1 : Int)) := dr_cell hA1.out 10 rfl
 have c11 : w1.cell? ⟨n, 11, none⟩ = some (.slice x L cap) := dr_cell hA1.out 11 rfl
 have hM := Lib.hid (msg_lit d hd x L cap w1 hbW1)
 have hok := draft_ok d
 have hwd := draft_wide hd
 have hmy := draft_may hd
 obtain ⟨m, hm⟩ : ∃ m, draftM d = m := ⟨_, rfl⟩
 rw [hm] at hok hwd hmy
 have hM2 := hM.out
 simp only [hm] at hM2
 replace hM2 := Lib.hid hM2
 clear hM hA hB h1 hb1 hm hbW hb
 go_wp2_with fail
 refine hM2.out.mono ?_
 rintro e w2 ⟨y, K, c, rfl, hMk, hb2⟩
 have hE := Encode_any m y K c hok hwd w2 hMk.marks
 have e1 : encE m = 0 := by rw [encE, if_pos hmy]
 have hcut := fun c (hc : c < (encL m).length) => dec_cut hok hwd hmy hc
 have hmr := fun t (ht : t ≠ ([] : Bs)) => dec_more hok hwd hmy ht
 have hmax := enc_max hok hmy hwd
 have hmin := enc_min (m := m) hmy
 obtain ⟨S, hS⟩ : ∃ S, encL m = S := ⟨_, rfl⟩
 rw [hS] at hmax hmin
 simp only [hS] at hcut hmr
 rw [hS, e1] at hE
 have hB2 := Lib.hid (hB1.out.trans (hb2.mono hz1))
 have hz2 := Nat.le_trans hz1 hb2.size
 replace hE := Lib.hid hE
 clear hM2 hb2 hB1 hA1 e1 hS hMk hz1 c0 c1 c2 c3 c4 c5 c6 c7 c8 c9 c10 c11
 go_wp2_with fail
 refine hE.out.mono ?_
 rintro e w3 ⟨rfl, hb3⟩
 have hB3 := Lib.hid (hB2.out.trans (hb3.mono hz2))
 have hz3 := Nat.le_trans hz2 hb3.size
 clear hE hB2 hb3 hz2
 obtain ⟨SL, hSL⟩ : ∃ SL, S.length = SL := ⟨_, rfl⟩
 rw [hSL] at hmax hmin
 simp only [hSL] at hcut
 obtain ⟨k, hk⟩ : ∃ k, N % SL = k := ⟨_, rfl⟩
 have hkL : k < SL := by rw [← hk]; exact Nat.mod_lt _ (by omega)
 have hrem : (N : Int).tmod (SL : Int) = (k : Int) := by rw [← hk]; rfl
 have hrem2 : (N : Int) % (SL : Int) = (k : Int) := by rw [← hk]; rfl
 have r1 := Lib.hid (fun W => refused_any (S.take k) 14 (by rw [List.length_take]; omega) (hcut k hkL) W)
 have hSLi : ¬ (SL : Int) = 0 := by omega
 have hSLm : (SL : Int) ≤ 1003 := by omega
 have hkL' : (k : Int) < (SL : Int) := by omega
 have hkL2 : (k : Int) ≤ (SL : Int) := by omega
 have hNi : (N : Int) ≤ 65535 := by omega
 replace hmr := Lib.hid hmr
 replace hmin := Lib.hid hmin
 clear hcut hk hkL hN
 by_cases h0 : more = []
 · subst h0
   go_wp2_with fail
   refine (r1.out _).mono ?_
   rintro e w4 ⟨rfl, hb4⟩
   have hB4 := Lib.hid (hB3.out.trans (hb4.mono hz3))
   clear hb4 r1 hB3
   go_wp2
   go_ret
   exact ⟨rfl, hB4.out⟩
 · obtain ⟨ML, hML⟩ : ∃ ML, more.length = ML := ⟨_, rfl⟩
   have hML0 : 0 < ML := by
    rw [← hML]
    exact List.length_pos_iff.2 h0
   obtain ⟨mn, hmn⟩ : ∃ mn, min ML 100 = mn := ⟨_, rfl⟩
   have hmni : min (ML : Int) 100 = (mn : Int) := by omega
   have hmle : (mn : Int) ≤ (ML : Int) := by omega
   have hmn0 : 0 < mn := by omega
   have ht : more.take mn ≠ [] := by
    intro e
    have := congrArg List.length e
    rw [List.length_take, List.length_nil] at this
    omega
   have r2 := Lib.hid (fun W => refused_any (S ++ more.take mn) 15 (by rw [List.length_append, List.length_take]; omega) (hmr.out _ ht) W)
   have hMLi : ¬ (ML : Int) = 0 := by omega
   have hMLb : ((ML : Int) == 0) = false := by rw [beq_eq_false_iff_ne]; omega
   rw [hML] at hmore
   have hMLm : (ML : Int) ≤ 9223372036854775000 := by omega
   clear h0 hML0 hmn hmn0 ht hmore
   go_wp2_with fail
   refine (r1.out _).mono ?_
   rintro e w4 ⟨rfl, hb4⟩
   have hB4 := Lib.hid (hB3.out.trans (hb4.mono hz3))
   have hz4 := Nat.le_trans hz3 hb4.size
   clear hb4 r1 hB3
   go_wp2_with fail
   refine (r2.out _).mono ?_
   rintro e w5 ⟨rfl, hb5⟩
   have hB5 := Lib.hid (hB4.out.trans (hb5.mono hz4))
   clear hb5 r2 hB4
   go_wp2
   go_ret
   exact ⟨rfl, hB5.out⟩
end Go.Proofs.Ytpefdmkfmcjfnaa.Df
namespace Go.Proofs.Ytpefdmkfmcjfnaa.Oct
open Go.ChangeShapes Go.WideShapes Go.ChangeAt Go.RowKit Go.Proofs.Ytpefdmkfmcjfnaa.Mem Go.Proofs.Ytpefdmkfmcjfnaa.Route
set_option linter.unusedVariables false
theorem int_ends {k : IntKind} {x : Int} (h : (Lit.int k x).wf = true) : k.min ≤ x ∧ x ≤ k.max := (Lit.wf_int_iff _ _).1 h
theorem u8_nat {x : Int} (h : (Lit.int .u8 x).wf = true) : ∃ n : Nat, x = (n : Int) ∧ n < 256 := by
 have := int_ends h
 simp [IntKind.min, IntKind.max, IntKind.bits, IntKind.signed] at this
 exact ⟨x.toNat, by omega, by omega⟩
theorem u16_nat {x : Int} (h : (Lit.int .u16 x).wf = true) : ∃ n : Nat, x = (n : Int) ∧ n < 65536 := by
 have := int_ends h
 simp [IntKind.min, IntKind.max, IntKind.bits, IntKind.signed] at this
 exact ⟨x.toNat, by omega, by omega⟩
theorem u64_nat {x : Int} (h : (Lit.int .u64 x).wf = true) : ∃ n : Nat, x = (n : Int) ∧ n < 18446744073709551616 := by
 have := int_ends h
 simp [IntKind.min, IntKind.max, IntKind.bits, IntKind.signed] at this
 exact ⟨x.toNat, by omega, by omega⟩
theorem exists_list {α : Type} {P : Nat → α → Prop} : ∀ {n : Nat}, (∀ i, i < n → ∃ x, P i x) → ∃ l : List α, l.length = n ∧ ∀ i x, l[i]? = some x → P i x
 | 0, _ => ⟨[], rfl, fun i x h => by simp at h⟩
 | n + 1, h => by
  obtain ⟨l, hl, hp⟩ := exists_list (n := n) (fun i hi => h i (by omega))
  obtain ⟨x, hx⟩ := h n (by omega)
  refine ⟨l ++ [x], by simp [hl], fun i y hy => ?_⟩
  rcases Nat.lt_or_ge i l.length with hi | hi
  · rw [List.getElem?_append_left hi] at hy
    exact hp i y hy
  · rw [List.getElem?_append_right hi] at hy
    have h0 : i - l.length = 0 := by have := (List.getElem?_eq_some_iff.1 hy).1; simp at this; omega
    rw [h0] at hy
    simp at hy
    subst hy
    rw [show i = n by omega]
    exact hx
theorem addOff (g o i : Nat) : (⟨g, o, none⟩ : Addr).add i = ⟨g, o + i, none⟩ := by unfold Addr.add; split <;> simp_all
theorem addAdd (g o i j : Nat) : ((⟨g, o, none⟩ : Addr).add i).add j = ⟨g, o + i + j, none⟩ := by rw [addOff, addOff]
section
variable {H : Type} {enc : TypeId × Value → H} {w : World} {base : Nat} {spare : Nat → Bool} {held : Bool}
theorem rows_of {α : Type} {t e : TypeId} {m : Nat} {f : α → List Value} {g : α → Prop} (ht : Try.prog.underlying t = some (.slice e)) (hc : Try.prog.cellsOf e = m) (hm : 0 < m)
 (hel : ∀ (n : Nat) (cs : List Value) (y : DataW H × List MemPlace), DataW.trod enc Try.prog w base spare held n e cs = some y → cs.length = m → ∃ x : α, cs = f x ∧ g x)
 {fuel : Nat} {v : Value} {x : DataW H × List MemPlace} (h : DataW.trod enc Try.prog w base spare held fuel t [v] = some x) :
 ∃ l : List α, RowB w.heap.size w v m (l.map f) ∧ ∀ y ∈ l, g y := by
 rcases DataW.trod_slice ht h with ⟨hcs, _⟩ | ⟨a, len, cap, elems, rest, n, _, hcs, _, hb, hl, hcap, hlen, hall, _, _⟩
 · simp at hcs
   exact ⟨[], ⟨none, 0, hcs, Nat.le_refl _, Nat.zero_le _, fun _ => ⟨rfl, rfl⟩, fun j r hj => by simp at hj⟩, fun y hy => by cases hy⟩
 · simp at hcs
   subst hcs
   rw [hc] at hall
   obtain ⟨l, hll, hP⟩ := exists_list (n := len) (P := fun i x => w.cells? base (a.add (i * m)) m = some (f x) ∧ g x) (fun i hi => by
    have h1 := hall i hi
    rw [List.getElem?_eq_getElem (by omega), Option.bind_eq_some_iff] at h1
    obtain ⟨cs, hcs, hy⟩ := h1
    obtain ⟨x, rfl, hg⟩ := hel n cs _ hy (World.cells?_some hcs).2.1
    exact ⟨x, hcs, hg⟩)
   refine ⟨l, ⟨some a, cap, by simp [hll], by simp [hll]; exact hl, hcap, fun e => (by cases e), fun j r hj => ?_⟩, fun y hy => ?_⟩
   · rw [List.getElem?_map] at hj
     obtain ⟨y, hy, rfl⟩ := Option.map_eq_some_iff.1 hj
     have hl0 : 0 < l.length := by have := (List.getElem?_eq_some_iff.1 hy).1; omega
     have h1 := (hP j y hy).1
     have h2 := World.cells?_some h1
     have h0 := World.cells?_some (hP 0 _ (List.getElem?_eq_getElem hl0)).1
     obtain ⟨b, off, spot⟩ := a
     have hspot : spot = none := by
      have hc0 : (f l[0])[0]? = some ((f l[0])[0]'(by rw [h0.2.1]; exact hm)) := List.getElem?_eq_getElem _
      have := h0.2.2 0 hm
      rw [hc0] at this
      simpa [Addr.add] using World.cell?_spot this
     subst hspot
     refine ⟨b, off, rfl, ?_, fun k u hk => ?_⟩
     · have := World.cells?_block h1 hm
       rw [show ((⟨b, off, none⟩ : Addr).add (j * m)).block = b by unfold Addr.add; split <;> rfl] at this
       exact this
     · have hkm : k < m := by rw [← h2.2.1]; exact (List.getElem?_eq_some_iff.1 hk).1
       have := h2.2.2 k hkm
       rw [hk, addAdd] at this
       exact this
   · obtain ⟨i, hi⟩ := List.getElem?_of_mem hy
     exact (hP i y hi).2
theorem list1T {α : Type} {cs : List α} (h : cs.length = 1) : ∃ a, cs = [a] := by
 match cs, h with
 | [a], _ => exact ⟨a, rfl⟩
theorem fieldS {P : Program} {t : TypeId} {fs : Array Field} {fuel : Nat} {cs : List Value} {x : DataW H × List MemPlace} (ht : P.underlying t = some (.struct fs)) (h : DataW.trod enc P w base spare held fuel t cs = some x) {i : Nat} {f : Field} (hf : fs[i]? = some f) :
 ∃ n y, DataW.trod enc P w base spare held n f.type ((cs.drop f.offset).take (P.cellsOf f.type)) = some y := by
 obtain ⟨xs, n, _, _, _, hlen, hall⟩ := DataW.trod_struct ht h
 have h1 := hall i f hf
 have hi : i < fs.size := (Array.getElem?_eq_some_iff.1 hf).1
 rw [List.getElem?_eq_getElem (by omega)] at h1
 exact ⟨n, _, h1⟩
theorem cellsU8 : Try.prog.cellsOf 5 = 1 := by kernel_rfl
end
end Go.Proofs.Ytpefdmkfmcjfnaa.Oct

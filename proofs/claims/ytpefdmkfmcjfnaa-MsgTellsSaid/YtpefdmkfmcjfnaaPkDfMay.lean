import Derived.Test.YtpefdmkfmcjfnaaPkDfMsg
import Derived.Test.YtpefdmkfmcjfnaaPkMsAppend

namespace Go.Proofs.Ytpefdmkfmcjfnaa.Df
open Go.RowKit Go.Sort Go.Proofs.Ytpefdmkfmcjfnaa.Mem Go.Proofs.Ytpefdmkfmcjfnaa.Route Go.Proofs.Ytpefdmkfmcjfnaa.Oct Go.Proofs.Ytpefdmkfmcjfnaa.Ms Go.Proofs.Ytpefdmkfmcjfnaa.Part Go.Proofs.Ytpefdmkfmcjfnaa.Mp
set_option linter.unusedVariables false
theorem marks_in {d : Dr} {c : Nat} {p : Mk} (h : p ∈ marksM d c) : ∃ i, i < c ∧ p = ((i : Int), digM d.bs i) := by
 simp only [marksM, List.mem_map, List.mem_filter, List.mem_range] at h
 obtain ⟨i, ⟨hi, -⟩, rfl⟩ := h
 exact ⟨i, hi, rfl⟩
theorem marks_32 (d : Dr) (c : Nat) : ∀ p ∈ marksM d c, p.2.length = 32 := by
 intro p hp
 obtain ⟨i, -, rfl⟩ := marks_in hp
 exact digM_len _ _
theorem marks_areM (f : Nat → Bool) (D : Nat → Bs) : ∀ (k b : Nat), b + k ≤ 8 → ∀ n : Int, n ≤ b → areM n (((List.range' b k).filter f).map fun (i : Nat) => ((i : Int), D i)) = true
 | 0, b, _, n, _ => by simp [areM]
 | k + 1, b, h, n, hn => by
  rw [List.range'_succ, List.filter_cons]
  split
  · rw [List.map_cons, areM, Bool.and_eq_true]
    refine ⟨by simp [betB]; omega, ?_⟩
    exact marks_areM f D k (b + 1) (by omega) _ (by simp)
  · exact marks_areM f D k (b + 1) (by omega) n (by omega)
theorem marks_up (d : Dr) : upB (marksM d 8) = true := by
 rw [← are_up, marksM, List.range_eq_range']
 exact marks_areM _ _ 8 0 (by omega) 0 (by omega)
theorem draft_ok (d : Dr) : (draftM d).ok := by
 unfold draftM
 split
 · exact ⟨rfl, fun p hp => by cases hp⟩
 split
 · exact ⟨digM_len _ _, fun p hp => by cases hp⟩
 split
 · exact ⟨rfl, marks_32 d 8⟩
 split
 · exact ⟨rfl, fun p hp => by cases hp⟩
 · exact ⟨rfl, fun p hp => by cases hp⟩
theorem draft_wide {d : Dr} (h : d.ok) : (draftM d).wide := by
 have h0 := h.b0
 have h1 := h.b1
 unfold draftM
 split
 · exact ⟨lt64, lt64, lt64⟩
 split
 · exact ⟨lt64, lt64, lt64⟩
 split
 · exact ⟨lt64, lt64, lt64⟩
 split
 · exact ⟨Nat.lt_of_le_of_lt (Nat.mod_le _ _) h0, h1, lt64⟩
 · refine ⟨lt64, lt64, ?_⟩
   show (ocM d).pr < 18446744073709551616
   unfold ocM
   split
   · exact lt64
   · exact Nat.lt_of_le_of_lt (Nat.mod_le _ _) h0
theorem draft_kind (d : Dr) : (draftM d).kind = kindD d := by
 unfold draftM
 split
 · rfl
 split
 · rfl
 split
 · rfl
 split
 · rfl
 · rfl
theorem draft_rnd (d : Dr) : (draftM d).rnd = (d.n0 : Int) % 16 := by
 unfold draftM
 split
 · rfl
 split
 · rfl
 split
 · rfl
 split
 · rfl
 · rfl
theorem draft_may {d : Dr} (h : d.ok) : mayB (draftM d) = true := by
 have hk := kind_cases d
 have h2 := h.n2
 have h3 := h.n3
 have h4 := h.n4
 have h5 := h.n5
 rw [mayB, Bool.and_eq_true, Bool.and_eq_true, decide_eq_true_eq, sameB_iff, draft_kind, draft_rnd]
 refine ⟨by omega, ?_⟩
 rcases hk with hk | hk | hk | hk | hk
 · have e : draftM d = { baseM d with req := (d.n1 : Int) % 64, rsv := (d.b0 : Int) % 16777217, rq := rqM d } := by rw [draftM, if_pos hk]
   rw [e]
   have hkk : (baseM d).kind = 1 := hk
   refine ⟨by rw [bareM, if_pos (by exact hkk)]; rfl, ?_⟩
   rw [kindB, if_pos (by exact hkk), decide_eq_true_eq]
   refine ⟨by show 0 ≤ (d.n1 : Int) % 64; omega, by show (d.n1 : Int) % 64 < 64; omega, by show 0 ≤ (d.b0 : Int) % 16777217; omega, by show (d.b0 : Int) % 16777217 ≤ 16777216; omega, ?_⟩
   show chkR (rqM d) = 0
   rw [chkR, Order.chk_iff, Place.mayB_iff, Place.mayB_iff, Window.okB_iff, Window.okB_iff]
   simp only [rqM]
   omega
 · have e : draftM d = { baseM d with car := (d.n1 : Int) % 8, dig := digM d.bs 0 } := by rw [draftM, if_neg (by omega), if_pos hk]
   rw [e]
   have hkk : (baseM d).kind = 2 := hk
   refine ⟨by rw [bareM, if_neg (by show ¬ (baseM d).kind = 1; omega), if_pos (by exact hkk)]; rfl, ?_⟩
   rw [kindB, if_neg (by show ¬ (baseM d).kind = 1; omega), if_pos (by exact hkk), carB_iff]
   show 0 ≤ (d.n1 : Int) % 8 ∧ (d.n1 : Int) % 8 < 8
   omega
 · have e : draftM d = { baseM d with marks := marksM d 8 } := by rw [draftM, if_neg (by omega), if_neg (by omega), if_pos hk]
   rw [e]
   have hkk : (baseM d).kind = 3 := hk
   refine ⟨by rw [bareM, if_neg (by show ¬ (baseM d).kind = 1; omega), if_neg (by show ¬ (baseM d).kind = 2; omega), if_pos (by exact hkk)]; rfl, ?_⟩
   rw [kindB, if_neg (by show ¬ (baseM d).kind = 1; omega), if_neg (by show ¬ (baseM d).kind = 2; omega), if_neg (by show ¬ (baseM d).kind = 4; omega), if_neg (by show ¬ (baseM d).kind = 5; omega)]
   exact marks_up d
 · have e : draftM d = { baseM d with car := (d.n1 : Int) % 8, bid := d.b0 % 4294967297, nonce := d.b1 } := by rw [draftM, if_neg (by omega), if_neg (by omega), if_neg (by omega), if_pos hk]
   rw [e]
   have hkk : (baseM d).kind = 4 := hk
   refine ⟨by rw [bareM, if_neg (by show ¬ (baseM d).kind = 1; omega), if_neg (by show ¬ (baseM d).kind = 2; omega), if_neg (by show ¬ (baseM d).kind = 3; omega), if_pos (by exact hkk)]; rfl, ?_⟩
   rw [kindB, if_neg (by show ¬ (baseM d).kind = 1; omega), if_neg (by show ¬ (baseM d).kind = 2; omega), if_pos (by exact hkk), Bool.and_eq_true, carB_iff, decide_eq_true_eq]
   refine ⟨?_, ?_⟩
   · show 0 ≤ (d.n1 : Int) % 8 ∧ (d.n1 : Int) % 8 < 8
     omega
   · show d.b0 % 4294967297 ≤ 4294967296
     omega
 · have e : draftM d = { baseM d with oc := ocM d } := by rw [draftM, if_neg (by omega), if_neg (by omega), if_neg (by omega), if_neg (by omega)]
   rw [e]
   have hkk : (baseM d).kind = 5 := hk
   refine ⟨by rw [bareM, if_neg (by show ¬ (baseM d).kind = 1; omega), if_neg (by show ¬ (baseM d).kind = 2; omega), if_neg (by show ¬ (baseM d).kind = 3; omega), if_neg (by show ¬ (baseM d).kind = 4; omega), if_pos (by exact hkk)]; rfl, ?_⟩
   rw [kindB, if_neg (by show ¬ (baseM d).kind = 1; omega), if_neg (by show ¬ (baseM d).kind = 2; omega), if_neg (by show ¬ (baseM d).kind = 4; omega), if_pos (by exact hkk)]
   show ocB (ocM d) = true
   unfold ocM
   split
   · decide
   · rename_i hz
     unfold ocB
     simp only
     rw [if_neg (by omega), decide_eq_true_eq]
     refine ⟨by omega, by omega, by omega⟩
end Go.Proofs.Ytpefdmkfmcjfnaa.Df
namespace Go.Proofs.Ytpefdmkfmcjfnaa.Ms
open Go.Proofs.Ytpefdmkfmcjfnaa.Oct
set_option linter.unusedVariables false
theorem may_marks {m : Ms} (h : mayB m = true) (h3 : ¬ m.kind = 3) : m.marks = [] := by
 rw [(may_parts h).2.1, bare_marks, if_neg h3]
theorem fold_from (l : Bs) : ∀ a : Nat, l.foldl (fun a b => a * 256 + b.toNat) a = a * 2 ^ (8 * l.length) + numL l := by
 induction l with
 | nil => intro a; simp [numL]
 | cons b t ih =>
  intro a
  have e : 2 ^ (8 * (t.length + 1)) = 256 * 2 ^ (8 * t.length) := by rw [Nat.mul_add, Nat.pow_add, Nat.mul_comm]
  rw [numL, List.foldl_cons, List.foldl_cons, ih, ih, List.length_cons, e, Nat.add_mul, ← Nat.mul_assoc, Nat.zero_mul, Nat.zero_add]
  omega
theorem num_cons (b : UInt8) (t : Bs) : numL (b :: t) = b.toNat * 2 ^ (8 * t.length) + numL t := by
 have := fold_from t b.toNat
 rw [numL, List.foldl_cons, Nat.zero_mul, Nat.zero_add, this]
end Go.Proofs.Ytpefdmkfmcjfnaa.Ms
namespace Go.Proofs.Ytpefdmkfmcjfnaa.Df
open Go.RowKit Go.Sort Go.Proofs.Ytpefdmkfmcjfnaa.Mem Go.Proofs.Ytpefdmkfmcjfnaa.Route Go.Proofs.Ytpefdmkfmcjfnaa.Oct Go.Proofs.Ytpefdmkfmcjfnaa.Ms Go.Proofs.Ytpefdmkfmcjfnaa.Part Go.Proofs.Ytpefdmkfmcjfnaa.Mp
set_option linter.unusedVariables false
attribute [local go_sem] str_append str_from str_to
theorem msg_lit (d : Dr) (hd : d.ok) (x : Option Addr) (L cap : Nat) (w : World) (hb : BytesAt w.heap.size w (.slice x L cap) d.bs) :
 Calls Try.prog 10 #[.agg #[.int .u8 (d.kd : Int), .int .u16 (d.n0 : Int), .int .u16 (d.n1 : Int), .int .u16 (d.n2 : Int), .int .u16 (d.n3 : Int), .int .u16 (d.n4 : Int), .int .u16 (d.n5 : Int), .int .u16 (d.n6 : Int), .int .u16 (d.n7 : Int), .int .u64 (d.b0 : Int), .int .u64 (d.b1 : Int), .slice x L cap]] w fun e w' => ∃ y N c, e = .returned (.agg (msC (draftM d) (.slice y N c)).toArray) ∧ OwnM w.heap.size w' (.slice y N c) (draftM d).marks ∧ Below w.heap.size w w' := msg_any d hd x L cap w hb
theorem dr_cell {w : World} {n : Nat} {d : Dr} {v : Value} (h : At w n 28 (drC d v).toArray) (i : Nat) {x : Value} (hx : (drC d v)[i]? = some x) : w.cell? ⟨n, i, none⟩ = some x := by
 rw [h.cell i]
 simpa using hx
end Go.Proofs.Ytpefdmkfmcjfnaa.Df
namespace Go.Proofs.Ytpefdmkfmcjfnaa.Df
open Go.RowKit Go.Sort Go.Proofs.Ytpefdmkfmcjfnaa.Mem Go.Proofs.Ytpefdmkfmcjfnaa.Route Go.Proofs.Ytpefdmkfmcjfnaa.Oct Go.Proofs.Ytpefdmkfmcjfnaa.Ms Go.Proofs.Ytpefdmkfmcjfnaa.Part Go.Proofs.Ytpefdmkfmcjfnaa.Mp Go.Proofs.Ytpefdmkfmcjfnaa.Feas
set_option linter.unusedVariables false
attribute [local go_sem] str_append str_from str_to
theorem marks_few {m : Ms} (hm : m.ok) (h : mayB m = true) : m.marks.length ≤ 8 := by
 by_cases h3 : m.kind = 3
 · obtain ⟨h1, -, h2⟩ := may_parts h
   unfold kindB at h2
   rw [if_neg (by omega), if_neg (by omega), if_neg (by omega), if_neg (by omega)] at h2
   exact up_len h2
 · rw [may_marks h h3]
   exact Nat.zero_le _
end Go.Proofs.Ytpefdmkfmcjfnaa.Df
namespace Go.Proofs.Ytpefdmkfmcjfnaa.Df
open Go.RowKit Go.Sort Go.Proofs.Ytpefdmkfmcjfnaa.Mem Go.Proofs.Ytpefdmkfmcjfnaa.Route Go.Proofs.Ytpefdmkfmcjfnaa.Oct Go.Proofs.Ytpefdmkfmcjfnaa.Ms Go.Proofs.Ytpefdmkfmcjfnaa.Part Go.Proofs.Ytpefdmkfmcjfnaa.Mp
set_option linter.unusedVariables false
theorem rows_cut {B : Nat} {W : World} {x : Option Addr} {N cap k m : Nat} {l : List (List Value)} (h : RowB B W (.slice x N cap) m l) (hl : l.length = N) (hk : k ≤ N) : RowB B W (.slice x k cap) m (l.take k) := by
 obtain ⟨x', cap', e, h1, h2, h0, h3⟩ := h
 simp only [Value.slice.injEq] at e
 obtain ⟨rfl, rfl, rfl⟩ := e
 refine ⟨x, cap, by simp; omega, by simp; omega, h2, fun hx => ?_, fun j r hj => ?_⟩
 · have := h0 hx
   simp [this]
 · have hjk : j < k := by
    rcases Nat.lt_or_ge j k with h | h
    · exact h
    · rw [List.getElem?_eq_none (by simp; omega)] at hj; cases hj
   rw [List.getElem?_take_of_lt hjk] at hj
   exact h3 j r hj
theorem marks_cut {B : Nat} {W : World} {x : Option Addr} {N cap k : Nat} {l : List Mk} (h : MarksAt B W (.slice x N cap) l) (hk : k ≤ N) : MarksAt B W (.slice x k cap) (l.take k) := by
 have := rows_cut h (by rw [List.length_map]; exact marks_len h) hk
 rw [MarksAt, List.map_take]
 exact this
theorem marks_cap {B : Nat} {W : World} {x : Option Addr} {N cap : Nat} {l : List Mk} (h : MarksAt B W (.slice x N cap) l) : N ≤ cap ∧ cap ≤ maxLen := by
 obtain ⟨x', cap', e, h1, h2, -⟩ := h
 simp only [Value.slice.injEq] at e
 obtain ⟨rfl, rfl, rfl⟩ := e
 exact ⟨h1, h2⟩
theorem slice_marks (y : Option Addr) (K cm j : Nat) (hj : j ≤ cm) (W : World) : (Instr.slice 38 (.slice y K cm) none (some (.int .i64 (j : Int))) none).run Try.prog W = .ok (.slice y j cm) W := by
 have h0 : (0 : Int) ≤ (j : Int) := by omega
 cases y
 all_goals
  simp [Instr.slice, Instr.sliceBounds, Instr.sliceBound, asIntOf, go_sem, h0]
  intro h
  exact absurd h (by omega)
set_option maxRecDepth 100000 in
set_option maxHeartbeats 16000000 in
theorem tells_walk (d : Dr) (hd : d.ok) (x : Option Addr) (L cap : Nat) (k e0 : Int) (hk : I64 k) (he : I64 e0) (m : Ms) (hm : m.ok) (hw : m.wide) (y : Option Addr) (K cm : Nat) (w : World) (hb : BytesAt w.heap.size w (.slice x L cap) d.bs) (hM : MarksAt w.heap.size w (.slice y K cm) m.marks) :
 Calls Try.prog 3 #[.agg (drC d (.slice x L cap)).toArray, .agg #[.int .i64 k, .int .i64 e0], .agg (msC m (.slice y K cm)).toArray] w fun e w' => e = .returned (.bool true) ∧ Below w.heap.size w w' := by
 obtain ⟨n, hn⟩ : ∃ n, w.heap.size = n := ⟨_, rfl⟩
 have hA : At (((w.alloc (.cells (drC d (.slice x L cap)).toArray 28)).alloc (.cells #[.int .i64 k, .int .i64 e0] 29)).alloc (.cells (msC m (.slice y K cm)).toArray 42)) n 28 (drC d (.slice x L cap)).toArray := by rw [← hn]; exact ((At.new w _ _).alloc _).alloc _
 have hP : AtL (((w.alloc (.cells (drC d (.slice x L cap)).toArray 28)).alloc (.cells #[.int .i64 k, .int .i64 e0] 29)).alloc (.cells (msC m (.slice y K cm)).toArray 42)) (n + 1) 29 [.int .i64 k, .int .i64 e0] := by
  have := (AtL.new (w.alloc (.cells (drC d (.slice x L cap)).toArray 28)) 29 [.int .i64 k, .int .i64 e0]).alloc (.cells (msC m (.slice y K cm)).toArray 42)
  rwa [World.size_alloc, hn] at this
 have hR : AtL (((w.alloc (.cells (drC d (.slice x L cap)).toArray 28)).alloc (.cells #[.int .i64 k, .int .i64 e0] 29)).alloc (.cells (msC m (.slice y K cm)).toArray 42)) (n + 2) 42 (msC m (.slice y K cm)) := by
  have := AtL.new ((w.alloc (.cells (drC d (.slice x L cap)).toArray 28)).alloc (.cells #[.int .i64 k, .int .i64 e0] 29)) 42 (msC m (.slice y K cm))
  rwa [World.size_alloc, World.size_alloc, hn] at this
 have hB : Below w.heap.size w (((w.alloc (.cells (drC d (.slice x L cap)).toArray 28)).alloc (.cells #[.int .i64 k, .int .i64 e0] 29)).alloc (.cells (msC m (.slice y K cm)).toArray 42)) := (((Below.refl _ _).alloc (Nat.le_refl _) _).alloc (by simp only [World.size_alloc]; omega) _).alloc (by simp only [World.size_alloc]; omega) _
 have hbW := hb.keep hB (Nat.le_refl _)
 have hMW := RowB.keep hM hB (Nat.le_refl _)
 have hcap := marks_cap hM
 have hKl := marks_len hM
 rw [hn] at hB hbW hMW
 rw [show Below w.heap.size w = Below n w by rw [hn]]
 replace hn := Lib.hid hn
 replace hA := Lib.hid hA
 replace hP := Lib.hid hP
 replace hR := Lib.hid hR
 replace hB := Lib.hid hB
 replace hbW := Lib.hid hbW
 replace hMW := Lib.hid hMW
 have hKlH := Lib.hid hKl
 clear hb hM hKl
 go_enter Try.func3, Try.ntmps3
 go_upto_region 1 with fail
 try simp only [hn.out]
 generalize (((w.alloc (.cells (drC d (.slice x L cap)).toArray 28)).alloc (.cells #[.int .i64 k, .int .i64 e0] 29)).alloc (.cells (msC m (.slice y K cm)).toArray 42)) = W at hA hP hR hB hbW hMW ⊢
 have hzW : n + 2 < W.heap.size := hR.out.inside
 have hd' := draft_ok d
 have hdw := draft_wide hd
 have hdm := draft_may hd
 have hfew := marks_few hd' hdm
 have hMs := Lib.hid (msg_lit d hd x L cap W (hbW.out.more (by omega)))
 obtain ⟨dm, hdme⟩ : ∃ z, draftM d = z := ⟨_, rfl⟩
 simp only [hdme] at hMs hd' hdw hdm hfew
 have hdd := hd'.dig
 have p0 : W.cell? ⟨n, 0, none⟩ = some (.int .u8 (d.kd : Int)) := dr_cell hA.out 0 rfl
 have p1 : W.cell? ⟨n, 1, none⟩ = some (.int .u16 (d.n0 : Int)) := dr_cell hA.out 1 rfl
 have p2 : W.cell? ⟨n, 2, none⟩ = some (.int .u16 (d.n1 : Int)) := dr_cell hA.out 2 rfl
 have p3 : W.cell? ⟨n, 3, none⟩ = some (.int .u16 (d.n2 : Int)) := dr_cell hA.out 3 rfl
 have p4 : W.cell? ⟨n, 4, none⟩ = some (.int .u16 (d.n3 : Int)) := dr_cell hA.out 4 rfl
 have p5 : W.cell? ⟨n, 5, none⟩ = some (.int .u16 (d.n4 : Int)) := dr_cell hA.out 5 rfl
 have p6 : W.cell? ⟨n, 6, none⟩ = some (.int .u16 (d.n5 : Int)) := dr_cell hA.out 6 rfl
 have p7 : W.cell? ⟨n, 7, none⟩ = some (.int .u16 (d.n6 : Int)) := dr_cell hA.out 7 rfl
 have p8 : W.cell? ⟨n, 8, none⟩ = some (.int .u16 (d.n7 : Int)) := dr_cell hA.out 8 rfl
 have p9 : W.cell? ⟨n, 9, none⟩ = some (.int .u64 (d.b0 : Int)) := dr_cell hA.out 9 rfl
 have p10 : W.cell? ⟨n, 10, none⟩ = some (.int .u64 (d.b1 : Int)) := dr_cell hA.out 10 rfl
 have p11 : W.cell? ⟨n, 11, none⟩ = some (.slice x L cap) := dr_cell hA.out 11 rfl
 clear hdme hdm
 go_wp2_with fail
 refine hMs.out.mono ?_
 rintro e w2 ⟨y1, N1, c1, rfl, hO2, hb2⟩
 clear p0 p1 p2 p3 p4 p5 p6 p7 p8 p9 p10 p11 hMs
 have hP2 := hP.out.on hb2
 have hR2 := hR.out.on hb2
 have hB2 := hB.out.trans (hb2.mono (by omega))
 have hM2 := RowB.keep hMW.out hb2 (by omega)
 have hz2 : n + 2 < w2.heap.size := hR2.inside
 have hO2' := hO2.less (Nat.zero_le _)
 obtain ⟨q, hq⟩ : ∃ q, w2.heap.size = q := ⟨_, rfl⟩
 have hq0 : AtL (w2.alloc (.cells (msC z0 nilS).toArray 42)) q 42 (msC z0 nilS) := by rw [← hq]; exact AtL.new w2 _ _
 have hb3 : Below w2.heap.size w2 (w2.alloc (.cells (msC z0 nilS).toArray 42)) := (Below.refl _ _).alloc (Nat.le_refl _) _
 have hQ3 := Lib.hid (atL_eq (hq0.row (putL (msC z0 nilS) 0 (msC dm (.slice y1 N1 c1)))) (put_msg z0d hdd))
 have hP3 := Lib.hid ((hP2.on hb3).rowFar (b := q) (by omega) (putL (msC z0 nilS) 0 (msC dm (.slice y1 N1 c1))).toArray)
 have hR3 := Lib.hid ((hR2.on hb3).rowFar (b := q) (by omega) (putL (msC z0 nilS) 0 (msC dm (.slice y1 N1 c1))).toArray)
 have hO3 := Lib.hid ((hO2'.below hb3).rowMsg hq0 (putL (msC z0 nilS) 0 (msC dm (.slice y1 N1 c1))).toArray)
 have hB3 := Lib.hid (below_row (hB2.trans (hb3.mono (by omega))) (g := q) (by omega) (putL (msC z0 nilS) 0 (msC dm (.slice y1 N1 c1))).toArray)
 have hM3 := Lib.hid (RowB.keep hM2 (below_row (hb3.mono (by omega : n ≤ w2.heap.size)) (g := q) (by omega) (putL (msC z0 nilS) 0 (msC dm (.slice y1 N1 c1))).toArray) (Nat.le_refl _))
 have hz3 : Hid (n + 2 < ((w2.alloc (.cells (msC z0 nilS).toArray 42)).setRow q (putL (msC z0 nilS) 0 (msC dm (.slice y1 N1 c1))).toArray).heap.size) := Lib.hid (by rw [setRow_size, World.size_alloc]; omega)
 have hnq : n + 2 < q := by omega
 rw [← hq] at hq0
 replace hq0 := Lib.hid hq0
 replace hq := Lib.hid hq
 clear hP hR hB hMW hb2 hP2 hR2 hB2 hM2 hO2 hO2' hb3 hA hbW hz2 hzW
 go_upto_region 2 with (rw [z0_lit]; refine wpList_store_part rfl 42 _ _ rfl w2.heap.size 0 (msC dm (.slice y1 N1 c1)) rfl rfl 42 (msC z0 nilS) hq0.out (size_msg hdd) (less_msg z0d hdd) (ms_one rfl) ?_)
 try simp only [Act.put]
 rw [hq.out]
 replace hz3 := hz3.out
 clear hq0 hq
 generalize (w2.alloc (.cells (msC z0 nilS).toArray 42)).setRow q (putL (msC z0 nilS) 0 (msC dm (.slice y1 N1 c1))).toArray = w3 at hQ3 hP3 hR3 hO3 hB3 hM3 hz3 ⊢
 have hmd := hm.dig
 have cc := hR3.out.get (ms_marks (v := .slice y K cm) hmd)
 have ff := hR3.out.free 47
 obtain ⟨j, hj⟩ : ∃ j, min K 40 = j := ⟨_, rfl⟩
 have hji : min (K : Int) 40 = (j : Int) := by omega
 have hjK : j ≤ K := by omega
 have hsl := fun W => slice_marks y K cm j (by omega) W
 have hR4 := Lib.hid (atL_eq (hR3.out.put 47 (.slice y j cm)) (show _ = msC { m with marks := m.marks.take j } (.slice y j cm) from set_marks _ _ _ hmd))
 have hQ4 := Lib.hid (hQ3.out.far (b := n + 2) (by omega) 47 (.slice y j cm))
 have hP4 := Lib.hid (hP3.out.far (b := n + 2) (by omega) 47 (.slice y j cm))
 have hO4 := Lib.hid (hO3.out.setMsg hR3.out 47 (.slice y j cm))
 have hB4 := Lib.hid (hB3.out.setCell (p := ⟨n + 2, 47, none⟩) (show n ≤ n + 2 from by omega) (.slice y j cm))
 have hM4 := Lib.hid (RowB.keep (marks_cut hM3.out hjK) (Below.setCell (Below.refl n w3) (p := ⟨n + 2, 47, none⟩) (show n ≤ n + 2 from by omega) (.slice y j cm)) (Nat.le_refl _))
 have hz4 : Hid (n + 2 < (w3.setCell ⟨n + 2, 47, none⟩ (.slice y j cm)).heap.size) := Lib.hid hR4.out.inside
 have hm2 : Ms.ok { m with marks := m.marks.take j } := ⟨hm.dig, fun p hp => hm.marks p (List.mem_of_mem_take hp)⟩
 have hw2 : Ms.wide { m with marks := m.marks.take j } := ⟨hw.bid, hw.nonce, hw.pr⟩
 obtain ⟨m2, hm2e⟩ : ∃ z : Ms, { m with marks := m.marks.take j } = z := ⟨_, rfl⟩
 have hM4' : Hid (MarksAt n (w3.setCell ⟨n + 2, 47, none⟩ (.slice y j cm)) (.slice y j cm) m2.marks) := by rw [← hm2e]; exact hM4
 rw [hm2e] at hm2 hw2 hR4
 have hcm : (j : Int) ≤ (cm : Int) := by omega
 have hjK' : (j : Int) ≤ (K : Int) := by omega
 clear hQ3 hP3 hR3 hO3 hB3 hM3 hM4 hm2e hj hm hw hmd hKlH
 go_upto_region 3 with fail
 replace hz4 := hz4.out
 generalize w3.setCell ⟨n + 2, 47, none⟩ (.slice y j cm) = w4 at hQ4 hP4 hR4 hO4 hB4 hM4' hz4 ⊢
 clear cc ff hsl hz3
 have hL1 := Lib.hid (lays_any dm y1 N1 c1 hd' hdw w4 hO4.out.marks)
 obtain ⟨a, hka⟩ : ∃ a : Nat, k % 256 = (a : Int) := ⟨(k % 256).toNat, by omega⟩
 have hm2d := hm2.dig
 refine wp_region_list ?_
 refine wpList_load_part_w rfl 42 _ rfl q 0 rfl (msC dm (.slice y1 N1 c1)) (fun j v hv => by rw [Nat.zero_add]; exact hQ4.out.get hv) _ Try.underlying42 rfl (size_msg hdd) ?_
 go_simp
 (refine BigFrame.wpList_want rfl ?_; intro Kk hK; replace hK := Lib.hid hK; go_wp2_with fail)
 refine hL1.out.mono ?_
 rintro e w5 ⟨rfl, hb5⟩
 have hQ5 := Lib.hid (hQ4.out.on hb5)
 have hP5 := hP4.out.on hb5
 have hR5 := Lib.hid (hR4.out.on hb5)
 have hO5 := hO4.out.below hb5
 have hB5 := Lib.hid (hB4.out.trans (hb5.mono (by omega)))
 have hM5 := Lib.hid (RowB.keep hM4'.out hb5 (by omega))
 have hz5 : n + 2 < w5.heap.size := hR5.out.inside
 have hTu := Lib.hid (Turned_any dm y1 N1 c1 hd' (by omega) a e0 he w5 hO5.marks)
 have u0 : w5.cell? ⟨n + 1, 0, none⟩ = some (.int .i64 k) := hP5.get rfl
 have u1 : w5.cell? ⟨n + 1, 1, none⟩ = some (.int .i64 e0) := hP5.get rfl
 clear hL1 hQ4 hP4 hR4 hO4 hB4 hM4' hz4 hb5 hP5 hO5
 go_wp2_with fail
 refine hK.out _ _ ?_
 clear hK Kk
 (refine BigFrame.wpList_want rfl ?_; intro Kk hK; replace hK := Lib.hid hK; go_wp2_with fail; refine hK.out _ _ ?_; clear hK Kk)
 refine wpList_load_part_w rfl 42 _ rfl q 0 rfl (msC dm (.slice y1 N1 c1)) (fun j v hv => by rw [Nat.zero_add]; exact hQ5.out.get hv) _ Try.underlying42 rfl (size_msg hdd) ?_
 go_simp
 (refine BigFrame.wpList_want rfl ?_; intro Kk hK; replace hK := Lib.hid hK; go_wp2_with fail; refine hK.out _ _ ?_; clear hK Kk)
 (refine BigFrame.wpList_want rfl ?_; intro Kk hK; replace hK := Lib.hid hK; go_wp2_with fail; refine hK.out _ _ ?_; clear hK Kk)
 (refine BigFrame.wpList_want rfl ?_; intro Kk hK; replace hK := Lib.hid hK; go_wp2_with fail; refine hK.out _ _ ?_; clear hK Kk)
 (refine BigFrame.wpList_want rfl ?_; intro Kk hK; replace hK := Lib.hid hK; go_wp2_with fail; refine hK.out _ _ ?_; clear hK Kk)
 (refine BigFrame.wpList_want rfl ?_; intro Kk hK; replace hK := Lib.hid hK; go_wp2_with fail; refine hK.out _ _ ?_; clear hK Kk)
 (refine BigFrame.wpList_want rfl ?_; intro Kk hK; replace hK := Lib.hid hK; go_wp2_with fail)
 refine hTu.out.mono ?_
 rintro e w6 ⟨xt, Nt, ct, rfl, hMt, hb6⟩
 have hR6 := Lib.hid (hR5.out.on hb6)
 have hB6 := Lib.hid (hB5.out.trans (hb6.mono (by omega)))
 have hM6 := Lib.hid (RowB.keep hM5.out hb6 (by omega))
 have hz6 : n + 2 < w6.heap.size := hR6.out.inside
 have htk := turn_ok hd' hdw (a % 16) e0
 have hL2 := Lib.hid (lays_any _ xt Nt ct htk.1 htk.2 w6 hMt)
 clear hTu u0 u1 hQ5 hR5 hB5 hM5 hz5 hMt hb6
 go_wp2_with fail
 refine hK.out _ _ ?_
 clear hK Kk
 (refine BigFrame.wpList_want rfl ?_; intro Kk hK; replace hK := Lib.hid hK; go_wp2_with fail)
 refine hL2.out.mono ?_
 rintro e w7 ⟨rfl, hb7⟩
 have hR7 := Lib.hid (hR6.out.on hb7)
 have hB7 := Lib.hid (hB6.out.trans (hb7.mono (by omega)))
 have hM7 := RowB.keep hM6.out hb7 (by omega)
 have hz7 : n + 2 < w7.heap.size := hR7.out.inside
 have hL3 := Lib.hid (lays_any m2 y j cm hm2 hw2 w7 (RowB.more hM7 (by omega)))
 clear hL2 hR6 hB6 hM6 hz6 hb7 hM7 htk
 go_wp2_with fail
 refine hK.out _ _ ?_
 clear hK Kk
 (refine BigFrame.wpList_want rfl ?_; intro Kk hK; replace hK := Lib.hid hK; go_wp2_with fail; refine hK.out _ _ ?_; clear hK Kk)
 (refine BigFrame.wpList_want rfl ?_; intro Kk hK; replace hK := Lib.hid hK; go_wp2_with fail; refine hK.out _ _ ?_; clear hK Kk)
 refine wpList_load_part_w rfl 42 _ rfl (n + 2) 0 rfl (msC m2 (.slice y j cm)) (fun j v hv => by rw [Nat.zero_add]; exact hR7.out.get hv) _ Try.underlying42 rfl (size_msg hm2d) ?_
 go_simp
 (refine BigFrame.wpList_want rfl ?_; intro Kk hK; replace hK := Lib.hid hK; go_wp2_with fail)
 refine hL3.out.mono ?_
 rintro e w8 ⟨rfl, hb8⟩
 have hB8 := Lib.hid (hB7.out.trans (hb8.mono (by omega)))
 have hz8 : n ≤ w8.heap.size := Nat.le_trans (by omega) hb8.size
 have hW := Lib.hid (works_any w8)
 clear hL3 hR7 hB7 hz7 hb8
 go_wp2_with fail
 refine hK.out _ _ ?_
 clear hK Kk
 (refine BigFrame.wpList_want rfl ?_; intro Kk hK; replace hK := Lib.hid hK; go_wp2_with fail; refine hK.out _ _ ?_; clear hK Kk)
 (refine BigFrame.wpList_want rfl ?_; intro Kk hK; replace hK := Lib.hid hK; go_wp2_with fail; refine hK.out _ _ ?_; clear hK Kk)
 (refine BigFrame.wpList_want rfl ?_; intro Kk hK; replace hK := Lib.hid hK; go_wp2_with fail)
 refine hW.out.mono ?_
 rintro e w9 ⟨rfl, hb9⟩
 have hB9 := Lib.hid (hB8.out.trans (hb9.mono hz8))
 clear hW hB8 hz8 hb9
 go_wp2_with fail
 refine hK.out _ _ ?_
 clear hK Kk
 go_wp2
 go_ret
 exact ⟨rfl, hB9.out⟩
end Go.Proofs.Ytpefdmkfmcjfnaa.Df

import Derived.Test.YtpefdmkfmcjfnaaPkDfMsg

namespace Go.Proofs.Ytpefdmkfmcjfnaa.Df
open Go.RowKit Go.Sort Go.Proofs.Ytpefdmkfmcjfnaa.Mem Go.Proofs.Ytpefdmkfmcjfnaa.Route Go.Proofs.Ytpefdmkfmcjfnaa.Oct Go.Proofs.Ytpefdmkfmcjfnaa.Ms Go.Proofs.Ytpefdmkfmcjfnaa.Part Go.Proofs.Ytpefdmkfmcjfnaa.Mp
set_option linter.unusedVariables false
theorem marks_in {d : Dr} {c : Nat} {p : Mk} (h : p ∈ marksM d c) : ∃ i, i < c ∧ p = ((i : Int), digM d.bs i) := by
 simp only [marksM, List.mem_map, List.mem_filter, List.mem_range] at h
 obtain ⟨i, ⟨hi, -⟩, rfl⟩ := h
 exact ⟨i, hi, rfl⟩
theorem marks_32 (d : Dr) (c : Nat) : ∀ p ∈ marksM d c, p.2.length = 32 := by
 intro p hp
 obtain ⟨i, -, rfl⟩ := marks_in hp
 exact digM_len _ _
theorem marks_areM (f : Nat → Bool) (D : Nat → Bs) : ∀ (k b : Nat), b + k ≤ 8 → ∀ n : Int, n ≤ b → areM n (((List.range' b k).filter f).map fun (i : Nat) => ((i : Int), D i)) = true
 | 0, b, _, n, _ => by simp [areM]
 | k + 1, b, h, n, hn => by
  rw [List.range'_succ, List.filter_cons]
  split
  · rw [List.map_cons, areM, Bool.and_eq_true]
    refine ⟨by simp [betB]; omega, ?_⟩
    exact marks_areM f D k (b + 1) (by omega) _ (by simp)
  · exact marks_areM f D k (b + 1) (by omega) n (by omega)
theorem marks_up (d : Dr) : upB (marksM d 8) = true := by
 rw [← are_up, marksM, List.range_eq_range']
 exact marks_areM _ _ 8 0 (by omega) 0 (by omega)
theorem draft_ok (d : Dr) : (draftM d).ok := by
 unfold draftM
 split
 · exact ⟨rfl, fun p hp => by cases hp⟩
 split
 · exact ⟨digM_len _ _, fun p hp => by cases hp⟩
 split
 · exact ⟨rfl, marks_32 d 8⟩
 split
 · exact ⟨rfl, fun p hp => by cases hp⟩
 · exact ⟨rfl, fun p hp => by cases hp⟩
theorem draft_wide {d : Dr} (h : d.ok) : (draftM d).wide := by
 have h0 := h.b0
 have h1 := h.b1
 unfold draftM
 split
 · exact ⟨lt64, lt64, lt64⟩
 split
 · exact ⟨lt64, lt64, lt64⟩
 split
 · exact ⟨lt64, lt64, lt64⟩
 split
 · exact ⟨Nat.lt_of_le_of_lt (Nat.mod_le _ _) h0, h1, lt64⟩
 · refine ⟨lt64, lt64, ?_⟩
   show (ocM d).pr < 18446744073709551616
   unfold ocM
   split
   · exact lt64
   · exact Nat.lt_of_le_of_lt (Nat.mod_le _ _) h0
theorem draft_kind (d : Dr) : (draftM d).kind = kindD d := by
 unfold draftM
 split
 · rfl
 split
 · rfl
 split
 · rfl
 split
 · rfl
 · rfl
theorem draft_rnd (d : Dr) : (draftM d).rnd = (d.n0 : Int) % 16 := by
 unfold draftM
 split
 · rfl
 split
 · rfl
 split
 · rfl
 split
 · rfl
 · rfl
theorem draft_may {d : Dr} (h : d.ok) : mayB (draftM d) = true := by
 have hk := kind_cases d
 have h2 := h.n2
 have h3 := h.n3
 have h4 := h.n4
 have h5 := h.n5
 rw [mayB, Bool.and_eq_true, Bool.and_eq_true, decide_eq_true_eq, sameB_iff, draft_kind, draft_rnd]
 refine ⟨by omega, ?_⟩
 rcases hk with hk | hk | hk | hk | hk
 · have e : draftM d = { baseM d with req := (d.n1 : Int) % 64, rsv := (d.b0 : Int) % 16777217, rq := rqM d } := by rw [draftM, if_pos hk]
   rw [e]
   have hkk : (baseM d).kind = 1 := hk
   refine ⟨by rw [bareM, if_pos (by exact hkk)]; rfl, ?_⟩
   rw [kindB, if_pos (by exact hkk), decide_eq_true_eq]
   refine ⟨by show 0 ≤ (d.n1 : Int) % 64; omega, by show (d.n1 : Int) % 64 < 64; omega, by show 0 ≤ (d.b0 : Int) % 16777217; omega, by show (d.b0 : Int) % 16777217 ≤ 16777216; omega, ?_⟩
   show chkR (rqM d) = 0
   rw [chkR, Order.chk_iff, Place.mayB_iff, Place.mayB_iff, Window.okB_iff, Window.okB_iff]
   simp only [rqM]
   omega
 · have e : draftM d = { baseM d with car := (d.n1 : Int) % 8, dig := digM d.bs 0 } := by rw [draftM, if_neg (by omega), if_pos hk]
   rw [e]
   have hkk : (baseM d).kind = 2 := hk
   refine ⟨by rw [bareM, if_neg (by show ¬ (baseM d).kind = 1; omega), if_pos (by exact hkk)]; rfl, ?_⟩
   rw [kindB, if_neg (by show ¬ (baseM d).kind = 1; omega), if_pos (by exact hkk), carB_iff]
   show 0 ≤ (d.n1 : Int) % 8 ∧ (d.n1 : Int) % 8 < 8
   omega
 · have e : draftM d = { baseM d with marks := marksM d 8 } := by rw [draftM, if_neg (by omega), if_neg (by omega), if_pos hk]
   rw [e]
   have hkk : (baseM d).kind = 3 := hk
   refine ⟨by rw [bareM, if_neg (by show ¬ (baseM d).kind = 1; omega), if_neg (by show ¬ (baseM d).kind = 2; omega), if_pos (by exact hkk)]; rfl, ?_⟩
   rw [kindB, if_neg (by show ¬ (baseM d).kind = 1; omega), if_neg (by show ¬ (baseM d).kind = 2; omega), if_neg (by show ¬ (baseM d).kind = 4; omega), if_neg (by show ¬ (baseM d).kind = 5; omega)]
   exact marks_up d
 · have e : draftM d = { baseM d with car := (d.n1 : Int) % 8, bid := d.b0 % 4294967297, nonce := d.b1 } := by rw [draftM, if_neg (by omega), if_neg (by omega), if_neg (by omega), if_pos hk]
   rw [e]
   have hkk : (baseM d).kind = 4 := hk
   refine ⟨by rw [bareM, if_neg (by show ¬ (baseM d).kind = 1; omega), if_neg (by show ¬ (baseM d).kind = 2; omega), if_neg (by show ¬ (baseM d).kind = 3; omega), if_pos (by exact hkk)]; rfl, ?_⟩
   rw [kindB, if_neg (by show ¬ (baseM d).kind = 1; omega), if_neg (by show ¬ (baseM d).kind = 2; omega), if_pos (by exact hkk), Bool.and_eq_true, carB_iff, decide_eq_true_eq]
   refine ⟨?_, ?_⟩
   · show 0 ≤ (d.n1 : Int) % 8 ∧ (d.n1 : Int) % 8 < 8
     omega
   · show d.b0 % 4294967297 ≤ 4294967296
     omega
 · have e : draftM d = { baseM d with oc := ocM d } := by rw [draftM, if_neg (by omega), if_neg (by omega), if_neg (by omega), if_neg (by omega)]
   rw [e]
   have hkk : (baseM d).kind = 5 := hk
   refine ⟨by rw [bareM, if_neg (by show ¬ (baseM d).kind = 1; omega), if_neg (by show ¬ (baseM d).kind = 2; omega), if_neg (by show ¬ (baseM d).kind = 3; omega), if_neg (by show ¬ (baseM d).kind = 4; omega), if_pos (by exact hkk)]; rfl, ?_⟩
   rw [kindB, if_neg (by show ¬ (baseM d).kind = 1; omega), if_neg (by show ¬ (baseM d).kind = 2; omega), if_neg (by show ¬ (baseM d).kind = 4; omega), if_pos (by exact hkk)]
   show ocB (ocM d) = true
   unfold ocM
   split
   · decide
   · rename_i hz
     unfold ocB
     simp only
     rw [if_neg (by omega), decide_eq_true_eq]
     refine ⟨by omega, by omega, by omega⟩
end Go.Proofs.Ytpefdmkfmcjfnaa.Df
namespace Go.Proofs.Ytpefdmkfmcjfnaa.Ms
open Go.Proofs.Ytpefdmkfmcjfnaa.Oct
set_option linter.unusedVariables false
theorem enc_frame {m : Ms} (h : mayB m = true) : encL m = Fr.frL m.kind.toNat (bodyL m) := by rw [encL, if_pos h, frameL_eq]
theorem fold_from (l : Bs) : ∀ a : Nat, l.foldl (fun a b => a * 256 + b.toNat) a = a * 2 ^ (8 * l.length) + numL l := by
 induction l with
 | nil => intro a; simp [numL]
 | cons b t ih =>
  intro a
  have e : 2 ^ (8 * (t.length + 1)) = 256 * 2 ^ (8 * t.length) := by rw [Nat.mul_add, Nat.pow_add, Nat.mul_comm]
  rw [numL, List.foldl_cons, List.foldl_cons, ih, ih, List.length_cons, e, Nat.add_mul, ← Nat.mul_assoc, Nat.zero_mul, Nat.zero_add]
  omega
theorem num_cons (b : UInt8) (t : Bs) : numL (b :: t) = b.toNat * 2 ^ (8 * t.length) + numL t := by
 have := fold_from t b.toNat
 rw [numL, List.foldl_cons, Nat.zero_mul, Nat.zero_add, this]
theorem num_small (l : Bs) : numL l < 2 ^ (8 * l.length) := by
 have := numL_lt l
 rwa [show 256 = 2 ^ 8 from rfl, ← Nat.pow_mul] at this
theorem laid_add (c N L : Nat) : ∀ k, k ≤ L → laidL (c * 2 ^ (8 * L) + N) k = laidL N k := by
 intro k
 induction k with
 | zero => intro _; rfl
 | succ j ih =>
  intro hk
  have e : 2 ^ (8 * L) = 2 ^ (8 * j) * (256 * 2 ^ (8 * (L - (j + 1)))) := by
   rw [show 256 = 2 ^ 8 from rfl, ← Nat.pow_add, ← Nat.pow_add]
   congr 1
   omega
  have h0 : 0 < 2 ^ (8 * j) := Nat.pow_pos (by decide)
  have hd : (c * 2 ^ (8 * L) + N) / 2 ^ (8 * j) = 256 * (c * 2 ^ (8 * (L - (j + 1)))) + N / 2 ^ (8 * j) := by
   rw [e, show c * (2 ^ (8 * j) * (256 * 2 ^ (8 * (L - (j + 1))))) + N = N + 2 ^ (8 * j) * (256 * (c * 2 ^ (8 * (L - (j + 1))))) by
    rw [Nat.add_comm]
    congr 1
    rw [Nat.mul_left_comm c, Nat.mul_left_comm c], Nat.add_mul_div_left _ _ h0, Nat.add_comm]
  rw [laidL, laidL, ih (by omega), hd, Nat.mul_add_mod]
theorem laid_num (l : Bs) : laidL (numL l) l.length = l := by
 induction l with
 | nil => rfl
 | cons b t ih =>
  have hb := b.toNat_lt
  have h0 : 0 < 2 ^ (8 * t.length) := Nat.pow_pos (by decide)
  rw [num_cons, List.length_cons, laidL, laid_add _ _ _ _ (Nat.le_refl _), ih, Nat.add_comm, Nat.add_mul_div_right _ _ h0, Nat.div_eq_of_lt (num_small t), Nat.zero_add, Nat.mod_eq_of_lt (by simpa using hb), UInt8.ofNat_toNat]
theorem num_inv {l t : Bs} {k n : Nat} (h : numS (some l) (k : Int) = (n, some t)) : l = laidL n k ++ t ∧ n < 2 ^ (8 * k) := by
 unfold numS at h
 split at h
 · rename_i l' e
   cases e
   split at h
   · rename_i hok
     simp only [Int.toNat_natCast, Prod.mk.injEq, Option.some.injEq] at h
     obtain ⟨rfl, rfl⟩ := h
     have hk : k ≤ l.length := by simp [getOk] at hok; omega
     have hl : (l.take k).length = k := by rw [List.length_take]; omega
     have h1 := laid_num (l.take k)
     have h2 := num_small (l.take k)
     rw [hl] at h1 h2
     exact ⟨by rw [h1, List.take_append_drop], h2⟩
   · cases h
 · cases h
end Go.Proofs.Ytpefdmkfmcjfnaa.Ms
namespace Go.Proofs.Ytpefdmkfmcjfnaa.Df
open Go.RowKit Go.Sort Go.Proofs.Ytpefdmkfmcjfnaa.Mem Go.Proofs.Ytpefdmkfmcjfnaa.Route Go.Proofs.Ytpefdmkfmcjfnaa.Oct Go.Proofs.Ytpefdmkfmcjfnaa.Ms Go.Proofs.Ytpefdmkfmcjfnaa.Part Go.Proofs.Ytpefdmkfmcjfnaa.Mp
set_option linter.unusedVariables false
attribute [local go_sem] str_append str_from str_to
theorem msg_lit (d : Dr) (hd : d.ok) (x : Option Addr) (L cap : Nat) (w : World) (hb : BytesAt w.heap.size w (.slice x L cap) d.bs) :
 Calls Try.prog 10 #[.agg #[.int .u8 (d.kd : Int), .int .u16 (d.n0 : Int), .int .u16 (d.n1 : Int), .int .u16 (d.n2 : Int), .int .u16 (d.n3 : Int), .int .u16 (d.n4 : Int), .int .u16 (d.n5 : Int), .int .u16 (d.n6 : Int), .int .u16 (d.n7 : Int), .int .u64 (d.b0 : Int), .int .u64 (d.b1 : Int), .slice x L cap]] w fun e w' => ∃ y N c, e = .returned (.agg (msC (draftM d) (.slice y N c)).toArray) ∧ OwnM w.heap.size w' (.slice y N c) (draftM d).marks ∧ Below w.heap.size w w' := msg_any d hd x L cap w hb
theorem enc_max {m : Ms} (hm : m.ok) (h : mayB m = true) (hw : m.wide) : (encL m).length ≤ 1003 := by
 have h1 := body_len hm (may_fits h hw)
 rw [enc_frame h, Fr.frL_length]
 omega
theorem dr_cell {w : World} {n : Nat} {d : Dr} {v : Value} (h : At w n 28 (drC d v).toArray) (i : Nat) {x : Value} (hx : (drC d v)[i]? = some x) : w.cell? ⟨n, i, none⟩ = some x := by
 rw [h.cell i]
 simpa using hx
end Go.Proofs.Ytpefdmkfmcjfnaa.Df
namespace Go.Proofs.Ytpefdmkfmcjfnaa.Df
open Go.RowKit Go.Sort Go.Proofs.Ytpefdmkfmcjfnaa.Mem Go.Proofs.Ytpefdmkfmcjfnaa.Route Go.Proofs.Ytpefdmkfmcjfnaa.Oct Go.Proofs.Ytpefdmkfmcjfnaa.Ms Go.Proofs.Ytpefdmkfmcjfnaa.Part Go.Proofs.Ytpefdmkfmcjfnaa.Mp Go.Proofs.Ytpefdmkfmcjfnaa.Feas
set_option linter.unusedVariables false
attribute [local go_sem] str_append str_from str_to
theorem msg_len (d : Dr) (hd : d.ok) (x : Option Addr) (L cap : Nat) (w : World) (hb : BytesAt w.heap.size w (.slice x L cap) d.bs) :
 Calls Try.prog 10 #[.agg #[.int .u8 (d.kd : Int), .int .u16 (d.n0 : Int), .int .u16 (d.n1 : Int), .int .u16 (d.n2 : Int), .int .u16 (d.n3 : Int), .int .u16 (d.n4 : Int), .int .u16 (d.n5 : Int), .int .u16 (d.n6 : Int), .int .u16 (d.n7 : Int), .int .u64 (d.b0 : Int), .int .u64 (d.b1 : Int), .slice x L cap]] w fun e w' => ∃ y c, e = .returned (.agg (msC (draftM d) (.slice y (draftM d).marks.length c)).toArray) ∧ OwnM w.heap.size w' (.slice y (draftM d).marks.length c) (draftM d).marks ∧ Below w.heap.size w w' :=
 (msg_lit d hd x L cap w hb).mono fun e w' ⟨y, N, c, h1, h2, h3⟩ => by
  have h4 := marks_len h2.marks
  subst h4
  exact ⟨y, c, h1, h2, h3⟩
end Go.Proofs.Ytpefdmkfmcjfnaa.Df
namespace Go.Proofs.Ytpefdmkfmcjfnaa.Ms
open Go.Proofs.Ytpefdmkfmcjfnaa.Oct
set_option linter.unusedVariables false
theorem num_from {st : St} {k : Nat} {t : Bs} (h : (numS st (k : Int)).2 = some t) : st = some (laidL (numS st (k : Int)).1 k ++ t) := by
 cases st with
 | none => cases h
 | some l => exact congrArg some (num_inv (k := k) (n := (numS (some l) (k : Int)).1) (t := t) (by rw [← h])).1
theorem lay_nat (n k : Nat) : lay1 (n : Int) k = laidL n k := by rw [lay1, Int.toNat_natCast]
theorem num1_from {st : St} {t : Bs} (h : (numS st 1).2 = some t) : st = some (lay1 ((numS st 1).1 : Int) 1 ++ t) := by rw [lay_nat]; exact num_from (k := 1) h
theorem num2_from {st : St} {t : Bs} (h : (numS st 2).2 = some t) : st = some (lay1 ((numS st 2).1 : Int) 2 ++ t) := by rw [lay_nat]; exact num_from (k := 2) h
theorem num4_from {st : St} {t : Bs} (h : (numS st 4).2 = some t) : st = some (lay1 ((numS st 4).1 : Int) 4 ++ t) := by rw [lay_nat]; exact num_from (k := 4) h
theorem num8_from {st : St} {t : Bs} (h : (numS st 8).2 = some t) : st = some (laidL (numS st 8).1 8 ++ t) := num_from (k := 8) h
theorem dig_from (n : Nat) : ∀ {st : St} {t : Bs}, (digS n st).2 = some t → st = some ((digS n st).1 ++ t) := by
 induction n with
 | zero => intro st t h; exact h
 | succ j ih =>
  intro st t h
  rw [digS] at h ⊢
  have h1 := ih h
  have h2 := num_from (k := 1) h1
  have e : laidL (numS st ((1 : Nat) : Int)).1 1 = [UInt8.ofNat (numS st 1).1] := by
   simp only [laidL]
   simp [ofNat_m]
  rw [e] at h2
  exact h2
theorem mark_from (n : Nat) : ∀ {st : St} {t : Bs}, (markS n st).2 = some t → st = some (marksL (markS n st).1 ++ t) ∧ (markS n st).1.length = n := by
 induction n with
 | zero => intro st t h; exact ⟨h, rfl⟩
 | succ j ih =>
  intro st t h
  cases st with
  | none => cases h
  | some l =>
   rw [markS] at h ⊢
   obtain ⟨h1, h2⟩ := ih h
   have h3 := dig_from 32 h1
   have h4 := num1_from h3
   refine ⟨?_, by rw [List.length_cons, h2]⟩
   refine h4.trans (congrArg some ?_)
   simp [marksL, markL]
theorem rq_from {st : St} {t : Bs} (h : (rqS st).2 = some t) : st = some (rqL (rqS st).1 ++ t) := by
 have h9 := num2_from h
 have h8 := num2_from h9
 have h7 := num4_from h8
 have h6 := num4_from h7
 have h5 := num4_from h6
 have h4 := num4_from h5
 have h3 := num2_from h4
 have h2 := num2_from h3
 have h1 := num2_from h2
 have h0 := num2_from h1
 refine h0.trans (congrArg some ?_)
 simp only [rqL, rqS, List.append_assoc]
theorem read_kind (k : Int) (st : St) : (readS k st).1.kind = k := by
 unfold readS
 split
 · rfl
 split
 · rfl
 split
 · rfl
 split
 · rfl
 split
 · rfl
 · rfl
theorem read_from {k : Int} {b t : Bs} (hk : 1 ≤ k ∧ k ≤ 5) (h : (readS k (some b)).2 = some t) : b = bodyL (readS k (some b)).1 ++ t := by
 by_cases e1 : k = 1
 · subst e1
   have h3 := rq_from h
   have h2 := num4_from h3
   have h1 := num1_from h2
   have h0 := num1_from h1
   refine Option.some.inj (h0.trans (congrArg some ?_))
   simp only [readS, bodyL, partL, if_true, List.append_assoc]
 by_cases e2 : k = 2
 · subst e2
   have h2 := dig_from 32 h
   have h1 := num1_from h2
   have h0 := num1_from h1
   refine Option.some.inj (h0.trans (congrArg some ?_))
   simp [readS, bodyL, partL]
 by_cases e3 : k = 3
 · subst e3
   obtain ⟨h2, hl⟩ := mark_from _ h
   have h1 := num1_from h2
   have h0 := num1_from h1
   refine Option.some.inj (h0.trans (congrArg some ?_))
   simp [readS, bodyL, partL, hl, lay_nat]
 by_cases e4 : k = 4
 · subst e4
   have h3 := num8_from h
   have h2 := num8_from h3
   have h1 := num1_from h2
   have h0 := num1_from h1
   refine Option.some.inj (h0.trans (congrArg some ?_))
   simp [readS, bodyL, partL]
 · obtain rfl : k = 5 := by omega
   have h3 := num8_from h
   have h2 := num1_from h3
   have h1 := num1_from h2
   have h0 := num1_from h1
   refine Option.some.inj (h0.trans (congrArg some ?_))
   simp [readS, bodyL, partL]
theorem dec_inv {s : Bs} {m : Ms} (h : decS s = (m, 0)) : mayB m = true ∧ encL m = s := by
 unfold decS at h
 split at h
 · cases h
 · rename_i f hf
   split at h
   · cases h
   · rename_i hn
     have hr : f.rest = [] := by
      by_cases e : f.rest = []
      · exact e
      · exact absurd (Or.inl e) hn
     have hk : (1 : Int) ≤ f.k ∧ (f.k : Int) ≤ 5 := by
      refine ⟨?_, ?_⟩
      · by_cases e : (f.k : Int) < 1
        · exact absurd (Or.inr (Or.inl e)) hn
        · omega
      · by_cases e : 5 < (f.k : Int)
        · exact absurd (Or.inr (Or.inr e)) hn
        · omega
     unfold bodyM at h
     split at h
     · cases h
     · rename_i t ht
       split at h
       · rename_i hc
         obtain ⟨rfl, hm⟩ := hc
         have e := (congrArg Prod.fst h)
         dsimp only at e
         have hb := read_from hk ht
         rw [e] at hm hb
         rw [List.append_nil] at hb
         have hkd := read_kind (f.k : Int) (some f.body)
         rw [e] at hkd
         refine ⟨hm, ?_⟩
         obtain ⟨_, _, hs⟩ := Fr.front_some hf
         rw [enc_frame hm, ← hb, hkd, Int.toNat_natCast, hs, hr, List.append_nil]
       · cases h
end Go.Proofs.Ytpefdmkfmcjfnaa.Ms

import Derived.Test.YtpefdmkfmcjfnaaPkFrLay
import Derived.Test.YtpefdmkfmcjfnaaPkMsEnc

namespace Go.Proofs.Ytpefdmkfmcjfnaa.Mp
open Go.RowKit Go.Sort Go.Proofs.Ytpefdmkfmcjfnaa.Mem Go.Proofs.Ytpefdmkfmcjfnaa.Route Go.Proofs.Ytpefdmkfmcjfnaa.Oct Go.Proofs.Ytpefdmkfmcjfnaa.Ms Go.Proofs.Ytpefdmkfmcjfnaa.Part
set_option linter.unusedVariables false
theorem rd_i (r o : Nat) (K : Int) (hK : K ≤ 4) (cs cs' : List Value) (st : St) (he : cs.set o (.int .i64 ((numS st K).1 : Int)) = cs') : (Rd r).one (o, Kd.i, K) (cs, st) = (cs', (numS st K).2) := by
 have hlt := numS_lt st hK
 show (cs.set o (.int .i64 (wrap64 ((numS st K).1 : Int))), (numS st K).2) = _
 rw [show wrap64 ((numS st K).1 : Int) = ((numS st K).1 : Int) by unfold wrap64; omega, he]
theorem rd_u (r o : Nat) (cs cs' : List Value) (st : St) (he : cs.set o (.int .u64 ((numS st 8).1 : Int)) = cs') : (Rd r).one (o, Kd.u, 8) (cs, st) = (cs', (numS st 8).2) := by
 show (cs.set o (.int .u64 ((numS st 8).1 : Int)), (numS st 8).2) = _
 rw [he]
theorem rd_b (r o : Nat) (cs : List Value) (st : St) : (Rd r).one (o, Kd.b, 1) (cs, st) = (cs.set o (u8V (UInt8.ofNat (numS st 1).1)), (numS st 1).2) := by
 have hlt := numS_byte st
 show (cs.set o (.int .u8 (IntKind.u8.wrap ((numS st 1).1 : Int))), (numS st 1).2) = _
 rw [show IntKind.u8.wrap ((numS st 1).1 : Int) = ((numS st 1).1 : Int) by
  unfold IntKind.wrap
  exact Int.emod_eq_of_lt (by omega) (by show ((numS st 1).1 : Int) < 256; omega)]
 rw [u8V, UInt8.toNat_ofNat', Nat.mod_eq_of_lt (by omega)]
theorem putL_next {cs vs : List Value} {o : Nat} (h : o + vs.length < cs.length) (x : Value) : (putL cs o vs).set (o + vs.length) x = putL cs o (vs ++ [x]) := by
 unfold putL
 have hl : (cs.take o ++ vs).length = o + vs.length := by rw [List.length_append, List.length_take]; omega
 rw [List.set_append_right _ _ (by omega), hl, Nat.sub_self, List.drop_eq_getElem_cons h, List.set_cons_zero]
 simp [Nat.add_assoc]
theorem putL_nil (cs : List Value) (o : Nat) : putL cs o [] = cs := by simp [putL]
theorem rd_digP (r o : Nat) (cs : List Value) (st : St) (h : o + 32 ≤ cs.length) : ∀ i, i ≤ 32 → (Rd r).chain ((digF o).take i) (cs, st) = (putL cs o ((digS i st).1.map u8V), (digS i st).2) := by
 intro i
 induction i with
 | zero =>
  intro _
  show (cs, st) = (putL cs o [], st)
  rw [putL_nil]
 | succ i ih =>
  intro hi
  rw [take_next (digF_get (by omega)), digS_snoc]
  refine chain_then (ih (by omega)) (chain_step (rd_b r (o + i) _ _) ?_)
  show ((putL cs o ((digS i st).1.map u8V)).set (o + i) _, _) = _
  have hl : ((digS i st).1.map u8V).length = i := by rw [List.length_map, digS_len]
  have := putL_next (cs := cs) (vs := (digS i st).1.map u8V) (o := o) (by rw [hl]; omega) (u8V (UInt8.ofNat (numS (digS i st).2 1).1))
  rw [hl] at this
  rw [this, List.map_append]
  rfl
theorem rd_dig (r o : Nat) (cs : List Value) (st : St) (h : o + 32 ≤ cs.length) : (Rd r).chain (digF o) (cs, st) = (putL cs o ((digS 32 st).1.map u8V), (digS 32 st).2) := by
 have := rd_digP r o cs st h 32 (by omega)
 rwa [List.take_of_length_le (by rw [digF_len]; omega)] at this
def allS : Nat → St → List Mk × St
 | 0, st => ([], st)
 | n + 1, st => (((numS st 1).1, (digS 32 (numS st 1).2).1) :: (allS n (digS 32 (numS st 1).2).2).1, (allS n (digS 32 (numS st 1).2).2).2)
theorem allS_snoc (n : Nat) : ∀ st : St, allS (n + 1) st = ((allS n st).1 ++ [(((numS (allS n st).2 1).1 : Int), (digS 32 (numS (allS n st).2 1).2).1)], (digS 32 (numS (allS n st).2 1).2).2) := by
 induction n with
 | zero => intro st; rfl
 | succ n ih =>
  intro st
  rw [allS, ih]
  simp [allS]
theorem allS_len (n : Nat) : ∀ st : St, (allS n st).1.length = n := by
 induction n with
 | zero => intro st; rfl
 | succ n ih => intro st; simp [allS, ih]
theorem allS_ok (n : Nat) : ∀ st : St, ∀ p ∈ (allS n st).1, p.2.length = 32 := by
 induction n with
 | zero => intro st p hp; cases hp
 | succ n ih =>
  intro st p hp
  rw [allS] at hp
  rcases List.mem_cons.1 hp with rfl | hp
  · exact digS_len 32 _
  · exact ih _ p hp
theorem digS_none (n : Nat) : (digS n none).2 = none := by
 induction n with
 | zero => rfl
 | succ n ih => rw [digS]; exact ih
theorem allS_none (n : Nat) : (allS n none).2 = none := by
 induction n with
 | zero => rfl
 | succ n ih =>
  rw [allS]
  show (allS n (digS 32 none).2).2 = none
  rw [digS_none]
  exact ih
theorem mark_all (n : Nat) : ∀ st : St, (markS n st).2 = (allS n st).2 ∧ ∀ t, (allS n st).2 = some t → (markS n st).1 = (allS n st).1 := by
 induction n with
 | zero => intro st; exact ⟨rfl, fun _ _ => rfl⟩
 | succ n ih =>
  intro st
  cases st with
  | none => rw [allS_none]; exact ⟨rfl, fun t h => by cases h⟩
  | some l =>
   obtain ⟨h1, h2⟩ := ih (digS 32 (numS (some l) 1).2).2
   refine ⟨h1, fun t ht => ?_⟩
   rw [markS, allS]
   have := h2 t ht
   rw [this]
theorem marksC_append (A B : List Mk) : marksC (A ++ B) = marksC A ++ marksC B := by simp [marksC]
theorem mark_set (A R : List Mk) (p : Mk) (hA : ∀ q ∈ A, q.2.length = 32) (x : Int) : (marksC (A ++ p :: R)).set (A.length * 33) (.int .i64 x) = marksC (A ++ (x, p.2) :: R) := by
 rw [marksC_append, marksC_append, List.set_append_right _ _ (by rw [marksC_len hA]; exact Nat.le_refl _), marksC_len hA, Nat.sub_self]
 rfl
theorem mark_dig (A R : List Mk) (x : Int) (d D : Bs) (hA : ∀ q ∈ A, q.2.length = 32) (hd : d.length = 32) (hD : D.length = 32) : putL (marksC (A ++ (x, d) :: R)) (A.length * 33 + 1) (D.map u8V) = marksC (A ++ (x, D) :: R) := by
 have hl := marksC_len hA
 unfold putL
 rw [marksC_append, marksC_append, List.take_append, List.drop_append, hl, List.take_of_length_le (by omega), List.drop_eq_nil_of_le (by omega), List.length_map, hD]
 rw [show A.length * 33 + 1 - A.length * 33 = 1 by omega, show A.length * 33 + 1 + 32 - A.length * 33 = 33 by omega]
 have e1 : (marksC ((x, d) :: R)).take 1 = [.int .i64 x] := by simp [marksC, markC]
 have e2 : (marksC ((x, d) :: R)).drop 33 = marksC R := by
  have : marksC ((x, d) :: R) = markC (x, d) ++ marksC R := rfl
  rw [this, List.drop_left' (markC_len hd)]
 have e3 : marksC ((x, D) :: R) = .int .i64 x :: (D.map u8V ++ marksC R) := rfl
 rw [e1, e2, e3]
 simp
theorem rd_marks (r C : Nat) (st : St) : ∀ i, i ≤ C → (Rd r).chain (marksF i) (marksC (List.replicate C zM), st) = (marksC ((allS i st).1 ++ List.replicate (C - i) zM), (allS i st).2) := by
 intro i
 induction i with
 | zero => intro _; rfl
 | succ i ih =>
  intro hi
  have hl := allS_len i st
  have ho := allS_ok i st
  rw [marksF_next, allS_snoc]
  have hrep : List.replicate (C - i) zM = zM :: List.replicate (C - (i + 1)) zM := by rw [← List.replicate_succ]; congr 1; omega
  refine chain_then (ih (by omega)) ?_
  rw [hrep]
  have hset := mark_set (allS i st).1 (List.replicate (C - (i + 1)) zM) zM ho ((numS (allS i st).2 1).1 : Int)
  rw [hl] at hset
  refine chain_step (rd_i r (i * 33) 1 (by omega) _ _ (allS i st).2 hset) ?_
  have hok : ∀ q ∈ (allS i st).1 ++ ((((numS (allS i st).2 1).1 : Nat) : Int), zM.2) :: List.replicate (C - (i + 1)) zM, q.2.length = 32 := by
   intro q hq
   rcases List.mem_append.1 hq with hq | hq
   · exact ho q hq
   · rcases List.mem_cons.1 hq with rfl | hq
     · rfl
     · rw [(List.mem_replicate.1 hq).2]; rfl
  refine (rd_dig r (i * 33 + 1) _ _ (by rw [marksC_len hok, List.length_append, List.length_cons, hl, List.length_replicate]; omega)).trans ?_
  have hdg := mark_dig (allS i st).1 (List.replicate (C - (i + 1)) zM) ((numS (allS i st).2 1).1 : Int) zM.2 (digS 32 (numS (allS i st).2 1).2).1 ho rfl (digS_len 32 _)
  rw [hl] at hdg
  rw [hdg, List.append_assoc]
  rfl
def readA (k : Int) (st : St) : Ms × St :=
 if k = 3 then
  ({ ({ z0 with kind := k, rnd := ((numS st 1).1 : Int) } : Ms) with marks := (allS (numS (numS st 1).2 1).1 (numS (numS st 1).2 1).2).1 }, (allS (numS (numS st 1).2 1).1 (numS (numS st 1).2 1).2).2)
 else readS k st
theorem readA_st (k : Int) (st : St) : (readA k st).2 = (readS k st).2 := by
 unfold readA
 split
 · rename_i h
   subst h
   exact (mark_all _ _).1.symm
 · rfl
theorem readA_some {k : Int} {st : St} {t : Bs} (h : (readS k st).2 = some t) : (readA k st).1 = (readS k st).1 := by
 unfold readA
 split
 · rename_i e
   subst e
   have h1 : (allS (numS (numS st 1).2 1).1 (numS (numS st 1).2 1).2).2 = some t := by rw [← (mark_all _ _).1]; exact h
   have h2 := (mark_all _ _).2 t h1
   exact Eq.trans (congrArg (fun l : List Mk => ({ ({ z0 with kind := 3, rnd := ((numS st 1).1 : Int) } : Ms) with marks := l } : Ms)) h2.symm) rfl
 · rfl
theorem lt64 : (0 : Nat) < 18446744073709551616 := by decide
theorem readA_ok (k : Int) (st : St) : (readA k st).1.ok ∧ (readA k st).1.wide := by
 unfold readA
 split
 · exact ⟨⟨rfl, allS_ok _ _⟩, ⟨lt64, lt64, lt64⟩⟩
 · rename_i h3
   unfold readS
   simp only [if_neg h3]
   split
   · exact ⟨⟨rfl, fun p hp => by cases hp⟩, ⟨lt64, lt64, lt64⟩⟩
   split
   · exact ⟨⟨digS_len 32 _, fun p hp => by cases hp⟩, ⟨lt64, lt64, lt64⟩⟩
   split
   · exact ⟨⟨rfl, fun p hp => by cases hp⟩, ⟨numS_u64 _ _, numS_u64 _ _, lt64⟩⟩
   split
   · exact ⟨⟨rfl, fun p hp => by cases hp⟩, ⟨lt64, lt64, numS_u64 _ _⟩⟩
   · exact ⟨⟨rfl, fun p hp => by cases hp⟩, ⟨lt64, lt64, lt64⟩⟩
def zK (k : Int) : Ms := { z0 with kind := k }
theorem rd_flat (r : Nat) (k : Int) (st : St) (h3 : k ≠ 3) (h5 : k ≠ 5) : (Rd r).chain ([(1, Kd.i, 1)] ++ walkF k) (msC (zK k) nilS, st) = (msC (readA k st).1 nilS, (readA k st).2) := by
 unfold readA
 rw [if_neg h3]
 refine chain_step (rd_i r 1 1 (by omega) _ _ st rfl) ?_
 unfold walkF readS
 by_cases e1 : k = 1
 · subst e1
   rw [if_pos rfl, if_pos rfl]
   refine chain_step (rd_i r 3 1 (by omega) _ _ _ rfl) ?_
   refine chain_step (rd_i r 4 4 (by omega) _ _ _ rfl) ?_
   refine chain_step (rd_i r 5 2 (by omega) _ _ _ rfl) ?_
   refine chain_step (rd_i r 6 2 (by omega) _ _ _ rfl) ?_
   refine chain_step (rd_i r 7 2 (by omega) _ _ _ rfl) ?_
   refine chain_step (rd_i r 8 2 (by omega) _ _ _ rfl) ?_
   refine chain_step (rd_i r 9 4 (by omega) _ _ _ rfl) ?_
   refine chain_step (rd_i r 10 4 (by omega) _ _ _ rfl) ?_
   refine chain_step (rd_i r 11 4 (by omega) _ _ _ rfl) ?_
   refine chain_step (rd_i r 12 4 (by omega) _ _ _ rfl) ?_
   refine chain_step (rd_i r 13 2 (by omega) _ _ _ rfl) ?_
   refine chain_step (rd_i r 14 2 (by omega) _ _ _ rfl) ?_
   rfl
 by_cases e2 : k = 2
 · subst e2
   rw [if_neg (by decide), if_pos rfl, if_neg (by decide), if_pos rfl]
   refine chain_step (rd_i r 2 1 (by omega) _ (msC { ({ z0 with kind := 2, rnd := ((numS st 1).1 : Int) } : Ms) with car := ((numS (numS st 1).2 1).1 : Int) } nilS) _ rfl) ?_
   refine (rd_dig r 15 _ _ (by rw [msC_len rfl]; omega)).trans ?_
   rw [set_dig _ _ _ rfl (digS_len 32 _)]
 by_cases e4 : k = 4
 · subst e4
   rw [if_neg (by decide), if_neg (by decide), if_pos rfl, if_neg (by decide), if_neg (by decide), if_neg (by decide), if_pos rfl]
   refine chain_step (rd_i r 2 1 (by omega) _ _ _ rfl) ?_
   refine chain_step (rd_u r 48 _ _ _ rfl) ?_
   refine chain_step (rd_u r 49 _ _ _ rfl) ?_
   rfl
 · rw [if_neg e1, if_neg e2, if_neg e4, if_neg e1, if_neg e2, if_neg h3, if_neg e4, if_neg h5]
   rfl
theorem rd_out (r : Nat) (st : St) : outS (Rd r) 50 ((Rd r).one (1, Kd.i, 1) (msC (zK 5) nilS, st)) = (msC (readA 5 st).1 nilS, (readA 5 st).2) := by
 have h1 := rd_i r 1 1 (by omega) (msC (zK 5) nilS) (msC { z0 with kind := 5, rnd := ((numS st 1).1 : Int) } nilS) st rfl
 have h2 := rd_i r 50 1 (by omega) (msC { z0 with kind := 5, rnd := ((numS st 1).1 : Int) } nilS) _ (numS st 1).2 rfl
 have h3 := rd_i r 0 1 (by omega) [.int .i64 (wrap64 (winAt (msC { z0 with kind := 5, rnd := ((numS st 1).1 : Int) } nilS) 51 + 1))] [.int .i64 ((numS (numS (numS st 1).2 1).2 1).1 : Int)] (numS (numS st 1).2 1).2 rfl
 have h4 := rd_u r 52 ((msC { z0 with kind := 5, rnd := ((numS st 1).1 : Int) } nilS).set 50 (.int .i64 ((numS (numS st 1).2 1).1 : Int))) _ (numS (numS (numS st 1).2 1).2 1).2 rfl
 have hlt := numS_byte (numS (numS st 1).2 1).2
 refine out_of h1 h2 h3 h4 ?_ rfl
 show (((msC { z0 with kind := 5, rnd := ((numS st 1).1 : Int) } nilS).set 50 (.int .i64 ((numS (numS st 1).2 1).1 : Int))).set 52 _).set 51 (.int .i64 (wrap64 (((numS (numS (numS st 1).2 1).2 1).1 : Int) - 1))) = _
 rw [show wrap64 (((numS (numS (numS st 1).2 1).2 1).1 : Int) - 1) = ((numS (numS (numS st 1).2 1).2 1).1 : Int) - 1 by unfold wrap64; omega]
 rfl
end Go.Proofs.Ytpefdmkfmcjfnaa.Mp
namespace Go.Proofs.Ytpefdmkfmcjfnaa.Fr
open Go.RowKit Go.Sort Go.Proofs.Ytpefdmkfmcjfnaa.Mem Go.Proofs.Ytpefdmkfmcjfnaa.Route Go.Proofs.Ytpefdmkfmcjfnaa.Oct
set_option linter.unusedVariables false
theorem byte_at (l : Bs) (i : Nat) (b : UInt8) (h : l[i]? = some b) (W : World) : (Instr.index 9 (.string (str l)) (.int .i64 (i : Int))).run Try.prog W = .ok (.int .u8 (b.toNat : Int)) W := by
 obtain ⟨hi, rfl⟩ := List.getElem?_eq_some_iff.1 h
 rw [run_index_string W 9 (str l) .i64 (i : Int) Try.underlying9, dif_pos ⟨by omega, by rw [str_size]; omega⟩]
 rfl
theorem str_len (l : Bs) : (str l).size = l.length := rfl
structure Told (S : ByteArray) (a b c : UInt8) (t : Bs) : Prop where
 size : S.size = t.length + 3
 i0 : ∀ W, (Instr.index 9 (.string S) (.int .i64 0)).run Try.prog W = .ok (.int .u8 (a.toNat : Int)) W
 i1 : ∀ W, (Instr.index 9 (.string S) (.int .i64 1)).run Try.prog W = .ok (.int .u8 (b.toNat : Int)) W
 i2 : ∀ W, (Instr.index 9 (.string S) (.int .i64 2)).run Try.prog W = .ok (.int .u8 (c.toNat : Int)) W
 cut : ∀ n, S.extract 3 (3 + n) = str (t.take n)
 from_ : ∀ n, S.extract (3 + n) (t.length + 3) = str (t.drop n)
theorem told (a b c : UInt8) (t : Bs) : Told (str (a :: b :: c :: t)) a b c t := by
 refine ⟨by rw [str_len]; simp, byte_at _ 0 a rfl, byte_at _ 1 b rfl, byte_at _ 2 c rfl, fun n => ?_, fun n => ?_⟩
 · rw [str_cut]
   simp
 · rw [show t.length + 3 = (a :: b :: c :: t).length by simp, str_from, show 3 + n = n + 3 by omega]
   simp
theorem front_short {s : Bs} (h : s.length < 3) : front s = none := by
 match s, h with
 | [], _ => rfl
 | [_], _ => rfl
 | [_, _], _ => rfl
theorem three_of {s : Bs} (h : ¬ s.length < 3) : ∃ a b c t, s = a :: b :: c :: t := by
 match s, h with
 | a :: b :: c :: t, _ => exact ⟨a, b, c, t, rfl⟩
 | [], h => simp at h
 | [_], h => simp at h
 | [_, _], h => simp at h
theorem str_ne {r : Bs} (h : r ≠ []) : str r ≠ ⟨#[]⟩ := fun e => h (str_inj (b := []) e)
theorem str_full {r : Bs} (h : r ≠ []) : (str r).toList.isEmpty = false := by
 rw [← Go.decide_eq_emptyBytes, decide_eq_false_iff_not]
 exact str_ne h
end Go.Proofs.Ytpefdmkfmcjfnaa.Fr

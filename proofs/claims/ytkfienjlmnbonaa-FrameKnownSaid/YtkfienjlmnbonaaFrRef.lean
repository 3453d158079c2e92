/-
  The document's Split and Parse.
-/
import Derived.Test.YtkfienjlmnbonaaFrLay
import Derived.Laws.Closers25
namespace Go.Proofs.Ytkfienjlmnbonaa.Fr
open Go.RowKit Go.Sort Go.Proofs.Ytkfienjlmnbonaa.Mem Go.Proofs.Ytkfienjlmnbonaa.Route Go.Proofs.Ytkfienjlmnbonaa.Oct
set_option linter.unusedVariables false

theorem results_tmp4 {fn : Func} {t u v x : Tmp} (h : fn.results = #[.tmp t, .tmp u, .tmp v, .tmp x]) (tmps : Array Value) (P : Program) (w : World) :
    (results fn tmps).run P w = .ok (.tuple #[tmps.getD t undef, tmps.getD u undef, tmps.getD v undef, tmps.getD x undef]) w := by
  simp [results, h]
theorem drewB {B : Nat} {a v : World} {n : Nat} (h : Below B a v) : Below B a (v.drewN n) := ⟨h.os, h.tape, h.output, h.size, h.block⟩
/-- A text's byte. -/
theorem byte_at (l : Bs) (i : Nat) (b : UInt8) (h : l[i]? = some b) (W : World) : (Instr.index 9 (.string (str l)) (.int .i64 (i : Int))).run Try.prog W = .ok (.int .u8 (b.toNat : Int)) W := by
  obtain ⟨hi, rfl⟩ := List.getElem?_eq_some_iff.1 h
  rw [run_index_string W 9 (str l) .i64 (i : Int) Try.underlying9, dif_pos ⟨by omega, by rw [str_size]; omega⟩]
  rfl
theorem str_len (l : Bs) : (str l).size = l.length := rfl
/-- What a text of three bytes and more tells. -/
structure Told (S : ByteArray) (a b c : UInt8) (t : Bs) : Prop where
  size : S.size = t.length + 3
  i0 : ∀ W, (Instr.index 9 (.string S) (.int .i64 0)).run Try.prog W = .ok (.int .u8 (a.toNat : Int)) W
  i1 : ∀ W, (Instr.index 9 (.string S) (.int .i64 1)).run Try.prog W = .ok (.int .u8 (b.toNat : Int)) W
  i2 : ∀ W, (Instr.index 9 (.string S) (.int .i64 2)).run Try.prog W = .ok (.int .u8 (c.toNat : Int)) W
  cut : ∀ n, S.extract 3 (3 + n) = str (t.take n)
  from_ : ∀ n, S.extract (3 + n) (t.length + 3) = str (t.drop n)
theorem told (a b c : UInt8) (t : Bs) : Told (str (a :: b :: c :: t)) a b c t := by
  refine ⟨by rw [str_len]; simp, byte_at _ 0 a rfl, byte_at _ 1 b rfl, byte_at _ 2 c rfl, fun n => ?_, fun n => ?_⟩
  · rw [str_cut]
    simp
  · rw [show t.length + 3 = (a :: b :: c :: t).length by simp, str_from, show 3 + n = n + 3 by omega]
    simp

set_option maxRecDepth 100000 in
set_option maxHeartbeats 4000000 in
theorem refSplit_three (a b c : UInt8) (t : Bs) (ht : t.length + 3 ≤ 9223372036854775807) (w : World) :
    Calls Try.prog 15 #[.string (str (a :: b :: c :: t))] w fun e w' => e = .returned (.tuple #[.int .i64 (spK (a :: b :: c :: t)), .string (str (spB (a :: b :: c :: t))), .string (str (spR (a :: b :: c :: t))), .int .i64 (spE (a :: b :: c :: t))]) ∧ Below w.heap.size w w' := by
  obtain ⟨hz, h0, h1, h2, hc, hf⟩ := told a b c t
  obtain ⟨N, hN⟩ : ∃ N, big b c = N := ⟨_, rfl⟩
  have e1 : 256 * (b.toNat : Int) + (c.toNat : Int) = (N : Int) := by rw [← hN]; unfold big; omega
  have hN6 : (N : Int) ≤ 65535 := by have := big_lt b c; omega
  have hb := b.toNat_lt
  have hc6 := c.toNat_lt
  have hb6 : (b.toNat : Int) ≤ 255 := by omega
  have hc7 : (c.toNat : Int) ≤ 255 := by omega
  have ha7 : (a.toNat : Int) ≤ 255 := by have := a.toNat_lt; omega
  have t3 : ¬ ((t.length : Int) + 3 < 3) := by omega
  replace hc := hc N
  replace hf := hf N
  by_cases hl : N ≤ t.length
  · have hF : front (a :: b :: c :: t) = some ⟨a.toNat, t.take N, t.drop N⟩ := by simp only [front, hN]; rw [if_pos hl]
    simp only [spK, spB, spR, spE, hF]
    generalize str (a :: b :: c :: t) = S at *
    have hl' : ¬ ((t.length : Int) < (N : Int)) := by omega
    clear hF hN hb hc6
    go_enter Try.func15, Try.ntmps15
    go_upto_region 3 with fail
    go_quiet (fail)
    go_upto_region 6 with fail
    go_quiet (fail)
    go_wp2
    refine bodyPost_ret (results_tmp4 rfl _ _ _) rfl ?_
    refine ⟨?_, by first | exact drewB (drewB (Below.refl _ w)) | exact drewB (Below.refl _ w)⟩
    rfl
  · have hF : front (a :: b :: c :: t) = none := by simp only [front, hN]; rw [if_neg hl]
    simp only [spK, spB, spR, spE, hF]
    generalize str (a :: b :: c :: t) = S at *
    have hl' : (t.length : Int) < (N : Int) := by omega
    clear hF hN hb hc6
    go_enter Try.func15, Try.ntmps15
    go_upto_region 3 with fail
    go_quiet (fail)
    go_wp2
    refine bodyPost_ret (results_tmp4 rfl _ _ _) rfl ?_
    exact ⟨rfl, drewB (Below.refl _ w)⟩
theorem front_short {s : Bs} (h : s.length < 3) : front s = none := by
  match s, h with
  | [], _ => rfl
  | [_], _ => rfl
  | [_, _], _ => rfl
theorem three_of {s : Bs} (h : ¬ s.length < 3) : ∃ a b c t, s = a :: b :: c :: t := by
  match s, h with
  | a :: b :: c :: t, _ => exact ⟨a, b, c, t, rfl⟩
  | [], h => simp at h
  | [_], h => simp at h
  | [_, _], h => simp at h
theorem refSplit_any (s : Bs) (hs : s.length ≤ 9223372036854775807) (w : World) :
    Calls Try.prog 15 #[.string (str s)] w fun e w' => e = .returned (.tuple #[.int .i64 (spK s), .string (str (spB s)), .string (str (spR s)), .int .i64 (spE s)]) ∧ Below w.heap.size w w' := by
  by_cases h3 : s.length < 3
  · simp only [spK, spB, spR, spE, front_short h3]
    have h4 : (s.length : Int) < 3 := by omega
    go_enter Try.func15, Try.ntmps15
    go_wp2
    refine bodyPost_ret (results_tmp4 rfl _ _ _) rfl ?_
    exact ⟨rfl, .refl _ _⟩
  · obtain ⟨a, b, c, t, rfl⟩ := three_of h3
    exact refSplit_three a b c t (by simpa using hs) w

theorem str_ne {r : Bs} (h : r ≠ []) : str r ≠ ⟨#[]⟩ := fun e => h (str_inj (b := []) e)
theorem str_full {r : Bs} (h : r ≠ []) : (str r).toList.isEmpty = false := by
  rw [← Go.decide_eq_emptyBytes, decide_eq_false_iff_not]
  exact str_ne h
theorem str_none : (str []).toList.isEmpty = true := by
  rw [← Go.decide_eq_emptyBytes]
  rfl
theorem str_eq {r : Bs} : (str r = ⟨#[]⟩) = (r = []) := propext ⟨fun e => str_inj (b := []) e, fun e => by rw [e]⟩
theorem refParse_any (s : Bs) (hs : s.length ≤ 9223372036854775807) (w : World) :
    Calls Try.prog 13 #[.string (str s)] w fun e w' => e = .returned (.tuple #[.int .i64 (paK s), .string (str (paB s)), .int .i64 (paE s)]) ∧ Below w.heap.size w w' := by
  have h := refSplit_any s hs w
  cases hf : front s with
  | none =>
    simp only [spK, spB, spR, spE, hf] at h
    simp only [paK, paB, paE, hf]
    clear hf
    go_enter Try.func13, Try.ntmps13
    go_wp2_with fail
    refine h.mono ?_
    rintro e w1 ⟨rfl, hb⟩
    go_wp2
    go_ret3
    exact ⟨rfl, hb⟩
  | some f =>
    obtain ⟨k, b, r⟩ := f
    simp only [spK, spB, spR, spE, hf] at h
    simp only [paK, paB, paE, hf]
    clear hf
    by_cases hr : r = []
    · subst hr
      simp only [if_true]
      go_enter Try.func13, Try.ntmps13
      go_wp2_with fail
      refine h.mono ?_
      clear h
      rintro e w1 ⟨rfl, hb⟩
      go_wp2
      go_ret3
      exact ⟨rfl, hb⟩
    · simp only [if_neg hr]
      have hn := str_full hr
      generalize str r = R at *
      go_enter Try.func13, Try.ntmps13
      go_wp2_with fail
      refine h.mono ?_
      clear h
      rintro e w1 ⟨rfl, hb⟩
      go_wp2
      go_ret3
      exact ⟨rfl, hb⟩

end Go.Proofs.Ytkfienjlmnbonaa.Fr

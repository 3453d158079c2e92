/-
  The document's Count.
-/
import Derived.Test.YtkfienjlmnbonaaFrRef
namespace Go.Proofs.Ytkfienjlmnbonaa.Fr
open Go.RowKit Go.Sort Go.Proofs.Ytkfienjlmnbonaa.Mem Go.Proofs.Ytkfienjlmnbonaa.Route Go.Proofs.Ytkfienjlmnbonaa.Oct
set_option linter.unusedVariables false

def sizeV : Value → Nat
  | .string s => s.size
  | _ => 0
theorem ret_ne {a b c d : Int} (h : a = b) (h2 : c = d) : Ending.returned (.tuple #[.int .i64 a, .int .i64 c]) = .returned (.tuple #[.int .i64 b, .int .i64 d]) := by rw [h, h2]
theorem Run.none_of {s r : Bs} {l : List Fd} (h : Run s l r) (hf : front s = none) : l = [] ∧ r = s := by
  cases h with
  | stop _ => exact ⟨rfl, rfl⟩
  | go h2 _ => rw [h2] at hf; cases hf
theorem Run.some_of {s r : Bs} {l : List Fd} {f : Fd} (h : Run s l r) (hf : front s = .some f) : ∃ l', l = f :: l' ∧ Run f.rest l' r := by
  cases h with
  | stop h2 => rw [h2] at hf; cases hf
  | go h2 h3 =>
    rw [h2] at hf
    cases hf
    exact ⟨_, rfl, h3⟩
set_option maxRecDepth 100000 in
set_option maxHeartbeats 4000000 in
theorem refCount_any (s r : Bs) (l : List Fd) (hr : Run s l r) (hs : s.length ≤ 9223372036854775807) (w : World) :
    Calls Try.prog 17 #[.string (str s)] w fun e w' => e = .returned (.tuple #[.int .i64 (cnN l r), .int .i64 (cnE r)]) ∧ Below w.heap.size w w' := by
  have hlen := hr.length
  obtain ⟨n, hn⟩ : ∃ n, l.length = n := ⟨_, rfl⟩
  rw [hn] at hlen
  have hnn : n ≤ 9223372036854775807 := by omega
  have hnn' := Lib.hid hnn
  obtain ⟨C, hC⟩ : ∃ C, cnN l r = C := ⟨_, rfl⟩
  obtain ⟨E, hE⟩ : ∃ E, cnE r = E := ⟨_, rfl⟩
  rw [hC, hE]
  replace hE := Lib.hid hE
  replace hC := Lib.hid (show (if r = [] then (n : Int) else 0) = C by rw [← hC, cnN, hn])
  replace hn := Lib.hid hn
  replace hs := Lib.hid hs
  clear hlen hnn
  go_enter Try.func17, Try.ntmps17
  go_wp2_with fail
  go_loopw [0, 4] (fun x y wr => ∃ (cur : Bs) (d : Nat) (m : List Fd), x = .string (str cur) ∧ y = .int .i64 (d : Int) ∧ Hid (Run cur m r) ∧ Hid (d + m.length = n) ∧ Hid (cur.length ≤ s.length) ∧ Hid (Below w.heap.size w wr))
    (fun x _ _ => sizeV x)
  case atStart => exact ⟨s, 0, l, rfl, rfl, Lib.hid hr, Lib.hid (by have := hn.out; omega), Lib.hid (Nat.le_refl _), Lib.hid (.refl _ _)⟩
  case round =>
    obtain ⟨cur, d, m, rfl, rfl, hrun, hd, hcl, hB⟩ := hrel
    by_cases hc : cur = []
    · subst hc
      obtain ⟨rfl, rfl⟩ := hrun.out.none_of rfl
      have hdn : d = n := by simpa using hd.out
      subst hdn
      clear hrun hd
      go_wp2
      go_ret2
      exact ⟨ret_ne (by rw [← hC.out]; simp) (by rw [← hE.out, cnE, if_pos rfl]), hB.out⟩
    · have hn := str_full hc
      have hn2 : cur.isEmpty = false := by cases cur with | nil => exact absurd rfl hc | cons _ _ => rfl
      have hsp := refSplit_any cur (by have := hcl.out; have := hs.out; omega) wr
      have hz := hB.out.size
      cases hf : front cur with
      | none =>
        obtain ⟨rfl, rfl⟩ := hrun.out.none_of hf
        simp only [spK, spB, spR, spE, hf] at hsp
        have h14 := Lib.hid (show 0 = C ∧ 14 = E from ⟨by rw [← hC.out, if_neg hc], by rw [← hE.out, cnE, if_neg hc]⟩)
        clear hf hrun hd
        go_wp2_with fail
        refine hsp.mono ?_
        clear hsp
        rintro e w1 ⟨rfl, hb⟩
        go_wp2
        go_ret2
        exact ⟨ret_ne h14.out.1 h14.out.2, hB.out.trans (hb.mono hz)⟩
      | some f =>
        obtain ⟨m', rfl, hrun'⟩ := hrun.out.some_of hf
        have hrl := rest_length hf
        simp only [spK, spB, spR, spE, hf] at hsp
        obtain ⟨k, b, t⟩ := f
        simp only at hsp hrun' hrl
        have hd' := Lib.hid (show d + 1 + m'.length = n by have := hd.out; simp at this; omega)
        have hdn : (d : Int) + 1 ≤ 9223372036854775807 := by have := hd'.out; have := hnn'.out; omega
        replace hrun' := Lib.hid hrun'
        replace hrl := Lib.hid hrl
        clear hf hrun hd
        go_wp2_with fail
        refine hsp.mono ?_
        clear hsp
        rintro e w1 ⟨rfl, hb⟩
        go_wp2
        go_roundw
        case rel => exact ⟨t, d + 1, m', rfl, by go_num, hrun', hd', Lib.hid (by have := hrl.out; have := hcl.out; omega), Lib.hid (hB.out.trans (hb.mono hz))⟩
        case measure =>
          have := hrl.out
          simp [sizeV, str_len]
          omega

end Go.Proofs.Ytkfienjlmnbonaa.Fr

import Derived.Test.YteefkijmodcijaaDoorPkFeasSomeLaw9
import Derived.Test.YteefkijmodcijaaDoorPkFeasSomeLaw4

/-
  The document's answers: how many such stops there are, whether rows are alike, and what is left without a request.
-/
namespace Go.Proofs.YteefkijmodcijaaDoor.Route
open Go.RowKit Go.Proofs.YteefkijmodcijaaDoor.Mem
set_option linter.unusedVariables false

theorem drop_get {l : List (Int × Int)} {k : Nat} (h : k < l.length) : ∃ s, l[k]? = some s ∧ l.drop k = s :: l.drop (k + 1) := ⟨l[k], List.getElem?_eq_getElem h, List.drop_eq_getElem_cons h⟩
theorem Row.opened {B : Nat} {W : World} {v : Value} {l : List (Int × Int)} (h : Row B W v l) : ∃ x N cap, v = .slice x N cap ∧ Hid (l.length = N) ∧ Hid (x = none → N = 0 ∧ cap = 0) ∧ N ≤ cap ∧ cap ≤ maxLen := by
  obtain ⟨x, cap, e, h1, h2, h0⟩ := h.slice
  exact ⟨x, l.length, cap, e, Lib.hid rfl, Lib.hid (fun hx => ⟨by rw [(h0 hx).1]; rfl, (h0 hx).2⟩), h1, h2⟩
theorem Ints.opened {B : Nat} {W : World} {v : Value} {l : List Int} (h : Ints B W v l) : ∃ x N cap, v = .slice x N cap ∧ Hid (l.length = N) ∧ N ≤ cap ∧ cap ≤ maxLen := by
  obtain ⟨x, cap, e, h1, h2⟩ := h.slice
  exact ⟨x, l.length, cap, e, Lib.hid rfl, h1, h2⟩
theorem cnt_le (s : Int × Int) (l : List (Int × Int)) : cnt s l ≤ l.length := List.length_filter_le ..
theorem take_get {l : List (Int × Int)} {k : Nat} {s : Int × Int} (h : l[k]? = some s) : l.take (k + 1) = l.take k ++ [s] := by rw [List.take_add_one, h]; rfl

set_option maxRecDepth 100000 in
set_option maxHeartbeats 1000000 in
theorem count_any (v : Value) (l : List (Int × Int)) (a b : Int) (hl : l.length ≤ 140737488351232) (w : World) (h : Row w.heap.size w v l) :
    Calls Tryd.prog 81 #[v, .agg #[.int .i64 a, .int .i64 b]] w fun e w' => e = .returned (.int .i64 (cnt (a, b) l)) ∧ Below w.heap.size w w' := by
  obtain ⟨x, N, cap, rfl, hN', h0', hc1, hc2⟩ := h.opened
  have hb0 : Below w.heap.size w (w.alloc (.cells #[.int .i64 a, .int .i64 b] 65)) := (Below.refl _ _).alloc (Nat.le_refl _) _
  have hA0 : At (w.alloc (.cells #[.int .i64 a, .int .i64 b] 65)) w.heap.size 65 #[.int .i64 a, .int .i64 b] := At.new w _ _
  have h' := Lib.hid h
  rw [hN'.out] at hl
  clear h
  go_enter Tryd.func81, Tryd.ntmps81
  go_wp2
  go_loopw [5, 6] (fun n i wr => ∃ k c : Nat, k ≤ N ∧ i = .int .i64 k ∧ n = .int .i64 c ∧ c = cnt (a, b) (l.take k) ∧ Below w.heap.size w wr ∧ At wr w.heap.size 65 #[.int .i64 a, .int .i64 b])
    (fun _ i _ => N - (intOf i).toNat)
  case atStart => exact ⟨0, 0, by omega, rfl, rfl, by simp [cnt], hb0, hA0⟩
  case round =>
    obtain ⟨k, c, hk, rfl, rfl, hcc, hbw, hA⟩ := hrel
    have hcl : c ≤ k := by
      have h1 := cnt_le (a, b) (l.take k)
      rw [List.length_take] at h1
      omega
    have hcc' := Lib.hid hcc
    clear hb0 hA0 hcc
    by_cases hlt : k < N
    · obtain ⟨s, hs, _⟩ := drop_get (l := l) (k := k) (by rw [hN'.out]; exact hlt)
      obtain ⟨s1, s2⟩ := s
      have hst := take_get hs
      obtain ⟨g, o, rfl, hg, e1, e2⟩ := Row.stop h'.out hs
      have e1 := (hbw.cell (p := ⟨g, o + k * 2, none⟩) hg).trans e1
      have e2 := (hbw.cell (p := ⟨g, o + k * 2 + 1, none⟩) hg).trans e2
      have a0 := hA.cell 0
      have a1 := hA.cell 1
      simp at a0 a1 e1 e2
      have hyes := Lib.hid (show s1 = a → s2 = b → cnt (a, b) (l.take (k + 1)) = c + 1 by rintro rfl rfl; rw [hst, cnt_append, cnt_cons_same, ← hcc'.out]; rfl)
      have hno := Lib.hid (show ((s1, s2) : Int × Int) ≠ (a, b) → cnt (a, b) (l.take (k + 1)) = c by intro hne; rw [hst, cnt_append, cnt_cons_other hne, ← hcc'.out]; rfl)
      clear hs hst
      cases h1 : (s1 == a)
      · go_wp2
        go_quiet (fail)
        go_wp2
        go_roundw
        case rel => exact ⟨k + 1, c, by omega, by go_num, rfl, (hno.out (by intro e; cases e; simp at h1)).symm, below_drewN hbw nq, hA.drewN nq⟩
        case measure => simp [intOf]; omega
      · cases h2 : (s2 == b)
        · go_wp2
          go_quiet (fail)
          go_wp2
          go_roundw
          case rel => exact ⟨k + 1, c, by omega, by go_num, rfl, (hno.out (by intro e; cases e; simp at h2)).symm, below_drewN hbw nq, hA.drewN nq⟩
          case measure => simp [intOf]; omega
        · go_wp2
          go_quiet (fail)
          go_wp2
          go_roundw
          case rel => exact ⟨k + 1, c + 1, by omega, by go_num, by go_num, (hyes.out (by simpa using h1) (by simpa using h2)).symm, below_drewN hbw nq, hA.drewN nq⟩
          case measure => simp [intOf]; omega
    · obtain rfl : k = N := by omega
      have he : c = cnt (a, b) l := by rw [hcc'.out, ← hN'.out, List.take_length]
      have he' := Lib.hid he
      clear he
      go_wp2
      go_ret
      exact ⟨ret_int (by rw [he'.out]), hbw⟩

end Go.Proofs.YteefkijmodcijaaDoor.Route

/-
  The contracts of the document's Without and At.
-/
import Derived.Test.YtkeijbefamlckaaRouteSame
namespace Go.Proofs.Ytkeijbefamlckaa.Route
open Go.RowKit Go.Proofs.Ytkeijbefamlckaa.Mem
set_option linter.unusedVariables false

theorem wo_succ_no {l : List (Int × Int)} {k : Nat} {s : Int × Int} {r : Int} (h : l[k]? = some s) (hr : s.1 = r) : woL r (l.take (k + 1)) = woL r (l.take k) := by rw [take_get h, wo_append]; simp [woL, hr]
theorem wo_succ_yes {l : List (Int × Int)} {k : Nat} {s : Int × Int} {r : Int} (h : l[k]? = some s) (hr : s.1 ≠ r) : woL r (l.take (k + 1)) = woL r (l.take k) ++ [s] := by rw [take_get h, wo_append]; simp [woL, hr]
theorem wo_take_le (r : Int) (l : List (Int × Int)) (k : Nat) : (woL r (l.take k)).length ≤ k := by
  have := wo_length r (l.take k)
  rw [List.length_take] at this
  omega
theorem nums_wo {r : Int} {l : List (Int × Int)} (h : Nums l) : Nums (woL r l) := fun s hs => h s (List.mem_filter.1 hs).1

set_option maxRecDepth 100000 in
set_option maxHeartbeats 1000000 in
theorem refWithout_any (v : Value) (l : List (Int × Int)) (r : Int) (hl : l.length ≤ 1000000) (w : World) (h : Row w.heap.size w v l) :
    Calls Try.prog 22 #[v, .int .i64 r] w fun e w' => (∃ v', e = .returned v' ∧ Row w'.heap.size w' v' (woL r l)) ∧ Below w.heap.size w w' := by
  obtain ⟨i0, hi, hz0, hz1, hz2⟩ := info_parts info_stop
  obtain ⟨x, N, cap, rfl, hN', h0', hc1, hc2⟩ := h.opened
  have h' := Lib.hid h
  rw [hN'.out] at hl
  clear h
  go_enter Try.func22, Try.ntmps22
  go_wp2
  go_loopw [5, 6] (fun u i wr => ∃ k : Nat, k ≤ N ∧ i = .int .i64 k ∧ wr.ownsRow w.heap.size 27 2 u (woL r (l.take k)).length (flatS (woL r (l.take k))) ∧ Below w.heap.size w wr)
    (fun _ i _ => N - (intOf i).toNat)
  case atStart => exact ⟨0, by omega, rfl, by simpa [woL, flatS] using World.ownsRow_nil _ _ _ _, Below.refl _ _⟩
  case round =>
    obtain ⟨k, hk, rfl, hown, hbw⟩ := hrel
    by_cases hlt : k < N
    · obtain ⟨s, hs, _⟩ := drop_get (l := l) (k := k) (by rw [hN'.out]; exact hlt)
      obtain ⟨g, o, rfl, hg, e1, e2⟩ := Row.stop h'.out hs
      have e1 := (hbw.cell (p := ⟨g, o + k * 2, none⟩) hg).trans e1
      have e2 := (hbw.cell (p := ⟨g, o + k * 2 + 1, none⟩) hg).trans e2
      have hyes := Lib.hid (wo_succ_yes (r := r) hs)
      have hno := Lib.hid (wo_succ_no (r := r) hs)
      have hln := wo_take_le r l k
      clear hs
      obtain ⟨s1, s2⟩ := s
      simp at e1 e2
      cases h1 : (s1 == r)
      · have hy := Lib.hid (hyes.out (by simpa using h1))
        clear hyes hno
        generalize woL r (l.take k) = L at *
        have hs := hbw.size
        go_wp2_with (at_builtin; refine wpList_append_own _ rfl _ _ 22 rfl w.heap.size 27 i0 (.agg #[.int .i64 0, .int .i64 0]) 2 16 Try.underlying22 hi hz0 hz1 hz2 rfl (by decide) _ _ _ rfl (hown.alloc _) ⟨wr.heap.size, 0, none⟩ 1 1 [.int .i64 s1, .int .i64 s2] rfl rfl (World.news_of_block (cs := #[.int .i64 s1, .int .i64 s2]) (t := 27) (fr := (0, 0)) (heap_alloc_new wr _)) (by simp [Value.oneCell']) (by unfold maxLen; omega) (by omega) (by simp; omega) ?_; intro v7 w7 hown7 hgrow7 hnil7)
        have hb7 : Below w.heap.size w w7 := (hbw.alloc hbw.size _).grown hgrow7 (by simp; omega) (owns_row hown)
        go_roundw
        case rel => exact ⟨k + 1, by omega, by go_num, by rw [hy.out, flatS_snoc, List.length_append]; exact hown7, hb7⟩
        case measure => simp [intOf]; omega
      · have hy := Lib.hid (hno.out (by simpa using h1))
        clear hyes hno
        go_wp2
        go_roundw
        case rel => exact ⟨k + 1, by omega, by go_num, by rw [hy.out]; exact hown, hbw⟩
        case measure => simp [intOf]; omega
    · obtain rfl : k = N := by omega
      have he : l.take k = l := by rw [← hN'.out, List.take_length]
      rw [he] at hown
      clear he
      have hr := Lib.hid (Row.of_owns (B := wr.heap.size) hown rfl (Nat.le_refl _))
      clear hown
      go_wp2
      go_ret
      exact ⟨⟨_, rfl, hr.out⟩, hbw⟩

theorem ix_here {l : List (Int × Int)} {k : Nat} {s x : Int × Int} (h : l[k]? = some x) (e : x = s) : (k : Int) = ixF s k (l.drop k) := by
  have hlt := (List.getElem?_eq_some_iff.1 h)
  obtain ⟨hlt, hx⟩ := hlt
  rw [List.drop_eq_getElem_cons hlt, hx, ixF_yes e]
theorem ix_past {l : List (Int × Int)} {k : Nat} {s x : Int × Int} (h : l[k]? = some x) (e : x ≠ s) : ixF s (k + 1) (l.drop (k + 1)) = ixF s k (l.drop k) := by
  obtain ⟨hlt, hx⟩ := List.getElem?_eq_some_iff.1 h
  rw [List.drop_eq_getElem_cons hlt, hx, ixF_no e]
theorem ret_two {a b c d : Int} (h : a = b) (h2 : c = d) : Ending.returned (.tuple #[.int .i64 a, .int .i64 c]) = .returned (.tuple #[.int .i64 b, .int .i64 d]) := by rw [h, h2]

set_option maxRecDepth 100000 in
set_option maxHeartbeats 1000000 in
theorem refAt_any (v : Value) (l : List (Int × Int)) (r : Int) (hl : l.length ≤ 1000000) (w : World) (h : Row w.heap.size w v l) :
    Calls Try.prog 19 #[v, .int .i64 r] w fun e w' => e = .returned (.tuple #[.int .i64 (ixV (r, 0) l), .int .i64 (ixV (r, 1) l)]) ∧ Below w.heap.size w w' := by
  obtain ⟨x, N, cap, rfl, hN', h0', hc1, hc2⟩ := h.opened
  have h' := Lib.hid h
  rw [hN'.out] at hl
  clear h
  have hwr : IntKind.i64.wrap ((N : Int) - 1) = (N : Int) - 1 := IntWalk.i64_in _ (by omega)
  go_enter Try.func19, Try.ntmps19
  go_wp2
  go_loopw [6, 7, 8] (fun p d i wr => ∃ (k : Nat) (a b : Int), k ≤ N ∧ i = .int .i64 ((k : Int) - 1) ∧ p = .int .i64 a ∧ d = .int .i64 b ∧ Hid (a = ixF (r, 0) k (l.drop k)) ∧ Hid (b = ixF (r, 1) k (l.drop k)) ∧ Below w.heap.size w wr)
    (fun _ _ i _ => (intOf i + 1).toNat)
  case atStart => exact ⟨N, -1, -1, Nat.le_refl _, rfl, rfl, rfl, Lib.hid (by rw [List.drop_eq_nil_of_le (by rw [hN'.out]; omega)]; rfl), Lib.hid (by rw [List.drop_eq_nil_of_le (by rw [hN'.out]; omega)]; rfl), Below.refl _ _⟩
  case round =>
    obtain ⟨k, a, b, hk, rfl, rfl, rfl, ha, hb, hbw⟩ := hrel
    cases k with
    | zero =>
      go_wp2
      refine bodyPost_ret (v := .tuple #[.int .i64 _, .int .i64 _]) (by simp [results, Try.results19, go_sem]; exact ⟨rfl, rfl⟩) rfl ?_
      exact ⟨ret_two (by rw [ha.out, ixV, List.drop_zero]) (by rw [hb.out, ixV, List.drop_zero]), hbw⟩
    | succ k =>
      obtain ⟨s, hs, _⟩ := drop_get (l := l) (k := k) (by rw [hN'.out]; omega)
      obtain ⟨g, o, rfl, hg, e1, e2⟩ := Row.stop h'.out hs
      have e1 := (hbw.cell (p := ⟨g, o + k * 2, none⟩) hg).trans e1
      have e2 := (hbw.cell (p := ⟨g, o + k * 2 + 1, none⟩) hg).trans e2
      have y0 := Lib.hid (ix_here (s := (r, 0)) hs)
      have y1 := Lib.hid (ix_here (s := (r, 1)) hs)
      have n0 := Lib.hid (ix_past (s := (r, 0)) hs)
      have n1 := Lib.hid (ix_past (s := (r, 1)) hs)
      clear hs
      obtain ⟨s1, s2⟩ := s
      simp only at e1 e2
      have hkk : ((k + 1 : Nat) : Int) - 1 = k := by omega
      simp only [hkk]
      cases h1 : (s1 == r)
      · have hne : s1 ≠ r := by simpa using h1
        have n0' := Lib.hid (n0.out (by intro e; cases e; exact hne rfl))
        have n1' := Lib.hid (n1.out (by intro e; cases e; exact hne rfl))
        clear y0 y1 n0 n1 hne hkk
        go_wp2
        go_roundw
        case rel => exact ⟨k, a, b, by omega, by go_num, rfl, rfl, Lib.hid (ha.out.trans n0'.out), Lib.hid (hb.out.trans n1'.out), hbw⟩
        case measure => simp [intOf] <;> omega
      · obtain rfl : s1 = r := by simpa using h1
        cases h2 : (s2 == 0)
        · have hne : s2 ≠ 0 := by simpa using h2
          have n0' := Lib.hid (n0.out (by intro e; cases e; exact hne rfl))
          cases h3 : (s2 == 1)
          · have hne2 : s2 ≠ 1 := by simpa using h3
            have n1' := Lib.hid (n1.out (by intro e; cases e; exact hne2 rfl))
            clear y0 y1 n0 n1 hne hne2 hkk
            go_wp2
            go_roundw
            case rel => exact ⟨k, a, b, by omega, by go_num, rfl, rfl, Lib.hid (ha.out.trans n0'.out), Lib.hid (hb.out.trans n1'.out), hbw⟩
            case measure => simp [intOf] <;> omega
          · obtain rfl : s2 = 1 := by simpa using h3
            have y1' := Lib.hid (y1.out rfl)
            clear y0 y1 n0 n1 hne hkk
            go_wp2
            go_roundw
            case rel => exact ⟨k, a, k, by omega, by go_num, rfl, rfl, Lib.hid (ha.out.trans n0'.out), y1', hbw⟩
            case measure => simp [intOf] <;> omega
        · obtain rfl : s2 = 0 := by simpa using h2
          have y0' := Lib.hid (y0.out rfl)
          have n1' := Lib.hid (n1.out (by simp))
          clear y0 y1 n0 n1 hkk
          go_wp2
          go_roundw
          case rel => exact ⟨k, k, b, by omega, by go_num, rfl, rfl, y0', Lib.hid (hb.out.trans n1'.out), hbw⟩
          case measure => simp [intOf] <;> omega

end Go.Proofs.Ytkeijbefamlckaa.Route

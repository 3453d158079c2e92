/-
  The contract of the document's Requests.
-/
import Derived.Test.YtkeijbefamlckaaRouteRefChk
namespace Go.Proofs.Ytkeijbefamlckaa.Route
open Go.RowKit Go.Proofs.Ytkeijbefamlckaa.Mem
set_option linter.unusedVariables false

theorem pick_yes {l : List (Int × Int)} {k : Nat} {s : Int × Int} (h : l[k]? = some s) (e : s.2 = 0) : picksL (l.take (k + 1)) = picksL (l.take k) ++ [s.1] := by rw [take_get h]; simp [picksL, e]
theorem pick_no {l : List (Int × Int)} {k : Nat} {s : Int × Int} (h : l[k]? = some s) (e : s.2 ≠ 0) : picksL (l.take (k + 1)) = picksL (l.take k) := by rw [take_get h]; simp [picksL, e]
theorem picks_le (l : List (Int × Int)) : (picksL l).length ≤ l.length := by
  unfold picksL
  rw [List.length_map]
  exact List.length_filter_le ..
theorem picks_take (l : List (Int × Int)) (k : Nat) : (picksL (l.take k)).length ≤ k := by
  have := picks_le (l.take k)
  rw [List.length_take] at this
  omega
theorem reqs_good {l : List (Int × Int)} (h : checkV l = 0) : reqsL l = picksL l := by
  unfold checkV at h
  unfold reqsL
  split at h
  · omega
  · split at h
    · rename_i h1 h2
      rw [h2, show decide (l.length ≤ 16) = true by simp; omega]
      rfl
    · omega
theorem reqs_bad {l : List (Int × Int)} (h : checkV l ≠ 0) : reqsL l = [] := by
  unfold checkV at h
  unfold reqsL
  split at h
  · rw [show decide (l.length ≤ 16) = false by simp; omega]
    rfl
  · split at h
    · omega
    · rename_i h1 h2
      rw [show isR l = false by simpa using h2, Bool.and_false]
      rfl

set_option maxRecDepth 100000 in
set_option maxHeartbeats 1000000 in
theorem refRequests_any (v : Value) (l : List (Int × Int)) (hl : l.length ≤ 1000000) (w : World) (h : Row w.heap.size w v l) :
    Calls Try.prog 14 #[v] w fun e w' => (∃ v', e = .returned v' ∧ Ints w'.heap.size w' v' (reqsL l)) ∧ Below w.heap.size w w' := by
  obtain ⟨i0, hi, hz0, hz1, hz2⟩ := info_parts info_int
  have hck := refCheck_any v l hl w h
  obtain ⟨x, N, cap, rfl, hN', h0', hc1, hc2⟩ := h.opened
  have h' := Lib.hid h
  rw [hN'.out] at hl
  obtain ⟨C, hC⟩ : ∃ C, checkV l = C := ⟨_, rfl⟩
  have hC' := Lib.hid hC
  rw [hC] at hck
  clear h hC
  cases hc0 : (C == 0)
  · have hr := Lib.hid (reqs_bad (l := l) (by rw [hC'.out]; simpa using hc0))
    have hc0' : (C != 0) = true := by simpa using hc0
    go_enter Try.func14, Try.ntmps14
    go_wp2_with fail
    refine hck.mono ?_
    rintro e w1 ⟨rfl, hb1⟩
    go_wp2
    go_ret
    exact ⟨⟨_, rfl, by rw [hr.out]; exact RowB.nil _ _ _⟩, hb1⟩
  · have hr := Lib.hid (reqs_good (l := l) (by rw [hC'.out]; simpa using hc0))
    have hc0' : (C != 0) = false := by simpa using hc0
    go_enter Try.func14, Try.ntmps14
    go_wp2_with fail
    refine hck.mono ?_
    rintro e w1 ⟨rfl, hb1⟩
    have hR := Lib.hid (h'.out.on hb1)
    clear hck
    go_wp2
    go_loopw [3, 4] (fun u i wr => ∃ k : Nat, k ≤ N ∧ i = .int .i64 k ∧ wr.ownsRow w1.heap.size 3 1 u (picksL (l.take k)).length (flatI (picksL (l.take k))) ∧ Below w1.heap.size w1 wr)
      (fun _ i _ => N - (intOf i).toNat)
    case atStart => exact ⟨0, by omega, rfl, by simpa [picksL, flatI] using World.ownsRow_nil _ _ _ _, Below.refl _ _⟩
    case round =>
      obtain ⟨k, hk, rfl, hown, hbw⟩ := hrel
      by_cases hlt : k < N
      · obtain ⟨⟨s1, s2⟩, hs, _⟩ := drop_get (l := l) (k := k) (by rw [hN'.out]; exact hlt)
        obtain ⟨g, o, rfl, hg, e1, e2⟩ := Row.stop hR.out hs
        have e1 := (hbw.cell (p := ⟨g, o + k * 2, none⟩) hg).trans e1
        have e2 := (hbw.cell (p := ⟨g, o + k * 2 + 1, none⟩) hg).trans e2
        simp at e1 e2
        have hyes := Lib.hid (pick_yes hs)
        have hno := Lib.hid (pick_no hs)
        have hln := picks_take l k
        have hsz := hbw.size
        clear hs
        generalize picksL (l.take k) = L at *
        cases h2 : (s2 == 0)
        · have hy := Lib.hid (hno.out (by simpa using h2))
          clear hyes hno
          go_wp2
          go_roundw
          case rel => exact ⟨k + 1, by omega, by go_num, by rw [hy.out]; exact hown, hbw⟩
          case measure => simp [intOf]; omega
        · have hy := Lib.hid (hyes.out (by simpa using h2))
          clear hyes hno
          go_wp2_with (at_builtin; refine wpList_append_own _ rfl _ _ 33 rfl w1.heap.size 3 i0 (.int .i64 0) 1 8 Try.underlying33 hi hz0 hz1 hz2 rfl (by decide) _ _ _ rfl (hown.alloc _) ⟨wr.heap.size, 0, none⟩ 1 1 [.int .i64 s1] rfl rfl (cell_one_new _ _ _) (by simp [Value.oneCell']) (by unfold maxLen; omega) (by omega) (by simp; omega) ?_; intro v7 w7 hown7 hgrow7 hnil7)
          have hb7 : Below w1.heap.size w1 w7 := (hbw.alloc hbw.size _).grown hgrow7 (by simp; omega) (owns_row hown)
          go_roundw
          case rel => exact ⟨k + 1, by omega, by go_num, by rw [hy.out, flatI_snoc, List.length_append]; exact hown7, hb7⟩
          case measure => simp [intOf]; omega
      · obtain rfl : k = N := by omega
        have he : l.take k = l := by rw [← hN'.out, List.take_length]
        rw [he] at hown
        clear he
        have hI := Lib.hid (Ints.of_owns (B := wr.heap.size) hown rfl (Nat.le_refl _))
        rw [← hr.out] at hI
        have hB := hb1.trans (hbw.mono hb1.size)
        clear hown
        go_wp2
        go_ret
        exact ⟨⟨_, rfl, hI.out⟩, hB⟩

end Go.Proofs.Ytkeijbefamlckaa.Route

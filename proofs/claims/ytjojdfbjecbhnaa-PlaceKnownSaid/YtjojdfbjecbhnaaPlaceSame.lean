/-
  Slices of places, and the contract of 'Same': are both rows alike?
-/
import Derived.Test.YtjojdfbjecbhnaaPlaceCalls2
namespace Go.Proofs.Ytjojdfbjecbhnaa.Place
open Go.RowKit
set_option linter.unusedVariables false

/-- A slice value that holds the places xs, in a block below n₀; or there are none. -/
def Rows (n₀ : Nat) (W : World) (sv : Value) (xs : List (Int × Int)) : Prop :=
  (∃ a cap, sv = .slice a 0 cap ∧ xs = []) ∨ ∃ b cap, sv = .slice (some ⟨b, 0, none⟩) xs.length cap ∧ b < n₀ ∧
    ∀ j, j < xs.length → W.cell? ⟨b, j * 2, none⟩ = some (.int .i64 (xs[j]?.getD (0, 0)).1) ∧ W.cell? ⟨b, j * 2 + 1, none⟩ = some (.int .i64 (xs[j]?.getD (0, 0)).2)
theorem Rows.below {n₀ : Nat} {A B : World} (h : Below n₀ A B) {sv : Value} {xs : List (Int × Int)} : Rows n₀ A sv xs → Rows n₀ B sv xs
  | .inl e => .inl e
  | .inr ⟨b, cap, e, hb, hc⟩ => .inr ⟨b, cap, e, hb, fun j hj => ⟨(h.cell (p := ⟨b, j * 2, none⟩) hb).trans (hc j hj).1, (h.cell (p := ⟨b, j * 2 + 1, none⟩) hb).trans (hc j hj).2⟩⟩
theorem Rows.more {n₀ n₁ : Nat} {W : World} {sv : Value} {xs : List (Int × Int)} (h : Rows n₀ W sv xs) (hn : n₀ ≤ n₁) : Rows n₁ W sv xs := by
  rcases h with h | ⟨b, cap, e, hb, hc⟩
  · exact .inl h
  · exact .inr ⟨b, cap, e, Nat.lt_of_lt_of_le hb hn, hc⟩
theorem Rows.slice {n₀ : Nat} {W : World} {sv : Value} {xs : List (Int × Int)} (h : Rows n₀ W sv xs) : ∃ a cap, sv = .slice a xs.length cap := by
  rcases h with ⟨a, cap, rfl, rfl⟩ | ⟨b, cap, rfl, _⟩
  · exact ⟨a, cap, rfl⟩
  · exact ⟨_, _, rfl⟩
theorem Rows.keep {w w' : World} {sv : Value} {xs : List (Int × Int)} (h : Rows w.heap.size w sv xs) (hb : Below w.heap.size w w') : Rows w'.heap.size w' sv xs := (h.below hb).more hb.size

/-- The first k are alike. -/
def agree (xs ys : List (Int × Int)) (k : Nat) : Prop := ∀ j, j < k → xs[j]?.getD (0, 0) = ys[j]?.getD (0, 0)
theorem agree_all {xs ys : List (Int × Int)} (hl : xs.length = ys.length) (h : agree xs ys xs.length) : xs = ys := by
  apply List.ext_getElem? fun j => ?_
  by_cases hj : j < xs.length
  · have := h j hj
    rw [List.getElem?_eq_getElem hj, List.getElem?_eq_getElem (by omega)] at this ⊢
    simpa using this
  · rw [List.getElem?_eq_none (by omega), List.getElem?_eq_none (by omega)]
theorem agree_succ {xs ys : List (Int × Int)} {k : Nat} (h : agree xs ys k) (h1 : (xs[k]?.getD (0, 0)).1 = (ys[k]?.getD (0, 0)).1) (h2 : (xs[k]?.getD (0, 0)).2 = (ys[k]?.getD (0, 0)).2) : agree xs ys (k + 1) := by
  intro j hj
  by_cases e : j = k
  · subst e; exact Prod.ext h1 h2
  · exact h j (by omega)
theorem unlike1 {xs ys : List (Int × Int)} (k : Nat) (h : (xs[k]?.getD (0, 0)).1 ≠ (ys[k]?.getD (0, 0)).1) : decide (xs = ys) = false := by
  simp only [decide_eq_false_iff_not]
  rintro rfl
  exact h rfl
theorem unlike2 {xs ys : List (Int × Int)} (k : Nat) (h : (xs[k]?.getD (0, 0)).2 ≠ (ys[k]?.getD (0, 0)).2) : decide (xs = ys) = false := by
  simp only [decide_eq_false_iff_not]
  rintro rfl
  exact h rfl
theorem unlike_len {xs ys : List (Int × Int)} (h : xs.length ≠ ys.length) : decide (xs = ys) = false := by
  simp only [decide_eq_false_iff_not]
  rintro rfl
  exact h rfl

set_option maxRecDepth 100000 in
set_option maxHeartbeats 1000000 in
theorem Same_any (sv tv : Value) (xs ys : List (Int × Int)) (hx : xs.length ≤ 140737488351232) (w : World) (hI : Rows w.heap.size w sv xs) (hJ : Rows w.heap.size w tv ys) :
    Calls Try.prog 13 #[sv, tv] w fun e w' => e = .returned (.bool (decide (xs = ys))) ∧ Below w.heap.size w w' := by
  obtain ⟨sa, sc, hs⟩ := hI.slice
  obtain ⟨ta, tc, ht⟩ := hJ.slice
  by_cases hl : xs.length = ys.length
  · rcases hI with ⟨a, cap, rfl, rfl⟩ | ⟨b, cap, rfl, hb, hc⟩
    · obtain rfl : ys = [] := List.eq_nil_of_length_eq_zero hl.symm
      subst ht
      clear hJ hs hl
      go_enter Try.func13, Try.ntmps13
      go_wp2
      go_loop [5] (fun i => i = .int .i64 0) (fun _ => 0)
      case atStart => rfl
      case round =>
        obtain rfl := hrel
        go_wp2
        go_ret
        exact ⟨ret_bool (by simp), Below.refl _ _⟩
    · rcases hJ with ⟨a2, cap2, rfl, rfl⟩ | ⟨b2, cap2, rfl, hb2, hc2⟩
      · obtain rfl : xs = [] := List.eq_nil_of_length_eq_zero hl
        clear hs ht hl hc
        go_enter Try.func13, Try.ntmps13
        go_wp2
        go_loop [5] (fun i => i = .int .i64 0) (fun _ => 0)
        case atStart => rfl
        case round =>
          obtain rfl := hrel
          go_wp2
          go_ret
          exact ⟨ret_bool (by simp), Below.refl _ _⟩
      · clear hs ht
        have hll := Lib.hid hl
        obtain ⟨n, hn⟩ : ∃ n, n = xs.length := ⟨_, rfl⟩
        have hn2 : ys.length = n := by omega
        rw [← hn] at hc hx ⊢
        rw [hn2] at hc2 ⊢
        have hn' := Lib.hid hn
        clear hl hn hn2
        go_enter Try.func13, Try.ntmps13
        go_wp2
        go_loopw [5] (fun i wr => ∃ k : Nat, k ≤ n ∧ i = .int .i64 k ∧ agree xs ys k ∧ Below w.heap.size w wr) (fun i _ => n - (intOf i).toNat)
        case atStart => exact ⟨0, by omega, rfl, fun j hj => absurd hj (by omega), Below.refl _ _⟩
        case round =>
          obtain ⟨k, hk, rfl, hag, hbw⟩ := hrel
          by_cases hlt : k < n
          · have e1 := (hbw.cell (p := ⟨b, k * 2, none⟩) hb).trans (hc k hlt).1
            have e2 := (hbw.cell (p := ⟨b, k * 2 + 1, none⟩) hb).trans (hc k hlt).2
            have e3 := (hbw.cell (p := ⟨b2, k * 2, none⟩) hb2).trans (hc2 k hlt).1
            have e4 := (hbw.cell (p := ⟨b2, k * 2 + 1, none⟩) hb2).trans (hc2 k hlt).2
            have u1 := @unlike1 xs ys k
            have u2 := @unlike2 xs ys k
            have u3 := @agree_succ xs ys k hag
            revert u1 u2 u3
            generalize xs[k]?.getD (0, 0) = X at *
            generalize ys[k]?.getD (0, 0) = Y at *
            obtain ⟨x1, x2⟩ := X
            obtain ⟨y1, y2⟩ := Y
            simp only at e1 e2 e3 e4 ⊢
            intro u1 u2 u3
            have u1' := Lib.hid u1
            have u2' := Lib.hid u2
            have u3' := Lib.hid u3
            clear u1 u2 u3 hc hc2
            cases h1 : (x1 == y1)
            · go_wp2
              go_quiet (fail)
              go_wp2
              go_ret
              exact ⟨ret_bool (u1'.out (by simpa using h1)).symm, below_drewN hbw nq⟩
            · cases h2 : (x2 == y2)
              · go_wp2
                go_quiet (fail)
                go_wp2
                go_ret
                exact ⟨ret_bool (u2'.out (by simpa using h2)).symm, below_drewN hbw nq⟩
              · go_wp2
                go_quiet (fail)
                go_wp2
                go_roundw
                case rel => exact ⟨k + 1, by omega, by go_num, u3'.out (by simpa using h1) (by simpa using h2), below_drewN hbw nq⟩
                case measure => simp [intOf]; omega
          · obtain rfl : k = n := by omega
            go_wp2
            go_ret
            exact ⟨ret_bool (by rw [agree_all hll.out (by rw [← hn'.out]; exact hag)]; simp), hbw⟩
  · have hd := Lib.hid (unlike_len hl)
    subst hs
    subst ht
    clear hI hJ
    have hl' : ((xs.length : Int) == ys.length) = false := by rw [beq_eq_false_iff_ne]; omega
    go_enter Try.func13, Try.ntmps13
    go_wp2
    go_ret
    exact ⟨ret_bool hd.out.symm, Below.refl _ _⟩

end Go.Proofs.Ytjojdfbjecbhnaa.Place

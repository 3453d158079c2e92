/-
  consignlaw01.NumSums returns true for every row of numbers: what they are together, from the left, and whether it fits, is as the answer's own sum says. No condition.
-/
import Derived.Test.YthipniehnniibaaNumRefSum
import Derived.Test.YthipniehnniibaaNumWorks
import Derived.Test.YthipniehnniibaaClose
namespace Go.Proofs.Ythipniehnniibaa.numSums
open Go.ChangeShapes Go.WideShapes Go.ChangeAt Go.RowKit Go.Proofs.Ythipniehnniibaa.Num
set_option linter.unusedVariables false

set_option maxRecDepth 100000 in
set_option maxHeartbeats 1000000 in
theorem walk_short (a : Option Addr) (len cap : Nat) (xs : List Int) (w : World) (hlen : len ≤ cap) (hcap : cap ≤ maxLen) (hs : len ≤ 30) (hreach : xs.length * 8 ≤ 140737488351232)
    (hxs : ∀ j, j < xs.length → -9223372036854775808 ≤ xs[j]?.getD 0 ∧ xs[j]?.getD 0 ≤ 9223372036854775807) (hI : Ints w.heap.size w (.slice a len cap) xs) :
    Calls Try.prog 4 #[.slice a len cap] w fun e w' => e = .returned (.bool true) ∧ Below w.heap.size w w' := by
  unfold maxLen at hcap
  have R1 := Lib.hid (Sum_any _ xs hreach hxs w hI)
  have R2 := Lib.hid (fun W (hb : Below w.heap.size w W) => RSum_any _ xs hreach hxs W ((hI.below hb).more hb.size))
  clear hxs hI hreach
  go_enter Try.func4, Try.ntmps4
  go_wp2_with fail
  refine R1.out.mono ?_
  rintro e w1 ⟨rfl, hb1⟩
  go_wp2_with fail
  refine (R2.out w1 hb1).mono ?_
  rintro e w2 ⟨rfl, hb2⟩
  have hB2 := hb1.trans (hb2.mono hb1.size)
  clear hb1 hb2
  go_wp2_with (go_at_call 16; refine (works_any _).mono ?_; rintro e w' ⟨rfl, hb3⟩)
  go_ret
  exact ⟨rfl, hB2.trans (hb3.mono hB2.size)⟩

set_option maxRecDepth 100000 in
set_option maxHeartbeats 1000000 in
theorem walk_long (a : Option Addr) (len cap : Nat) (xs : List Int) (w : World) (hlen : len ≤ cap) (hcap : cap ≤ maxLen) (hs : 30 < len) (hreach : xs.length * 8 ≤ 140737488351232)
    (hxs : ∀ j, j < xs.length → -9223372036854775808 ≤ xs[j]?.getD 0 ∧ xs[j]?.getD 0 ≤ 9223372036854775807) (hI : Ints w.heap.size w (.slice a 30 cap) xs) :
    Calls Try.prog 4 #[.slice a len cap] w fun e w' => e = .returned (.bool true) ∧ Below w.heap.size w w' := by
  unfold maxLen at hcap
  have R1 := Lib.hid (Sum_any _ xs hreach hxs w hI)
  have R2 := Lib.hid (fun W (hb : Below w.heap.size w W) => RSum_any _ xs hreach hxs W ((hI.below hb).more hb.size))
  clear hxs hI hreach
  go_enter Try.func4, Try.ntmps4
  go_wp2_with fail
  refine R1.out.mono ?_
  rintro e w1 ⟨rfl, hb1⟩
  go_wp2_with fail
  refine (R2.out w1 hb1).mono ?_
  rintro e w2 ⟨rfl, hb2⟩
  have hB2 := hb1.trans (hb2.mono hb1.size)
  clear hb1 hb2
  go_wp2_with (go_at_call 16; refine (works_any _).mono ?_; rintro e w' ⟨rfl, hb3⟩)
  go_ret
  exact ⟨rfl, hB2.trans (hb3.mono hB2.size)⟩

set_option maxRecDepth 100000 in
theorem lifted (os : Os) (started : os.Started) (H : Type) (enc : TypeId × Value → H) :
    ReturnsInHanded {} Try.checked os 4 .any (Rows.numSumsSpec.pre6 enc Try.prog Try.f4 Rows.numSumsRow.domain false) (Rows.numSumsSpec.post enc Try.prog Try.f4 false true false false) := by
  refine returnsInHanded_of_change (C := Try.checked) own started (by kernel_rfl) Try.func4
    (ChangeSpec.witness6 (enc := enc) (C := Try.checked) false ⟨#[], #[.slice none 0 0], []⟩ 8 (by kernel_rfl) (by kernel_rfl) (by kernel_rfl) (by kernel_rfl)) ?_
  intro W base args ds gs before hval0 hW hcnd _
  have hval : ∀ (j : Nat) t v, Try.f4.params[j]? = some t → args[j]? = some v → Value.okWide Try.prog W .any base t v := hval0
  have hW' := hW
  obtain ⟨p, q, hA0, hV, rfl, hfz, hnd⟩ := hW
  have hA : DataW.TrodAll enc Try.prog W 0 (fun _ => true) true Try.f4.params.toList args.toList ds p := hA0
  rw [Try.params4] at hA hval
  obtain ⟨v0, vs0, d0, ds0, p0, q0, hargs, rfl, rfl, h0, r0⟩ := trodAll_cons hA
  obtain ⟨rfl, rfl, rfl⟩ := trodAll_nil r0
  obtain rfl : args = #[v0] := by cases args; simp_all
  obtain ⟨rfl, rfl⟩ := trodVars_none hV
  have hlt : ∀ p ∈ p0, p.block < W.heap.size := fun p hp => hW'.lt p (by simp [hp])
  obtain ⟨a, len, cap, rfl⟩ := okWide_slice Try.underlying38 (hval 0 38 v0 rfl rfl)
  obtain ⟨fuel, hf⟩ := h0
  suffices hs : Calls Try.prog 4 #[.slice a len cap] W fun e w' => e = .returned (.bool true) ∧ Below W.heap.size W w' from
    hs.mono fun e W' ⟨he, hb⟩ => ⟨_, he, Close.law_post laidOut (by kernel_rfl) rfl (by kernel_rfl) Try.underlying4 hW' rfl hb⟩
  rcases open_ints Try.underlying38 Try.underlying2 (by kernel_rfl) hf with ⟨hcs, hx⟩ | ⟨a', len', cap', zs, hcs, _, hl, hm, hz, hx, hcell, hwz⟩
  · simp [Value.cells] at hcs
    obtain ⟨rfl, rfl, rfl⟩ := hcs
    exact walk_short none 0 0 [] W (by omega) (by decide) (by omega) (by simp) (fun j hj => absurd hj (by simp)) (.inl ⟨_, _, rfl, rfl⟩)
  · simp [Value.cells] at hcs
    obtain ⟨rfl, rfl, rfl⟩ := hcs
    simp only [if_true] at hz
    have hbd : ∀ n, ∀ j, j < (zs.take n).length → -9223372036854775808 ≤ (zs.take n)[j]?.getD 0 ∧ (zs.take n)[j]?.getD 0 ≤ 9223372036854775807 := by
      intro n j hj
      rw [List.getElem?_eq_getElem hj, Option.getD_some]
      exact bounds_i64 (hwz _ (List.mem_of_mem_take (List.getElem_mem hj)))
    have hI : ∀ n, n ≤ zs.length → Ints W.heap.size W (.slice (some a') n cap) (zs.take n) := by
      intro n hn
      rcases Nat.eq_zero_or_pos n with rfl | hpos
      · exact .inl ⟨_, _, rfl, by simp⟩
      · obtain ⟨b, off, spot⟩ := a'
        have hspot : spot = none := by simpa [Addr.add] using World.cell?_spot (hcell 0 (by omega))
        subst hspot
        refine .inr ⟨b, off, cap, by rw [List.length_take, Nat.min_eq_left hn], ?_, ?_⟩
        · exact block_lt_of_cell (a := ⟨b, off, none⟩) (by simpa [Addr.add] using hcell 0 (by omega))
        · intro j hj
          rw [List.length_take] at hj
          have := hcell j (by omega)
          rw [add_plain] at this
          rw [this, List.getElem?_take_of_lt (by omega), List.getD_eq_getElem?_getD]
    by_cases hs : len ≤ 30
    · have hr : (zs.take len).length * 8 ≤ 140737488351232 := by rw [List.length_take]; omega
      exact walk_short (some a') len cap (zs.take len) W hl hm hs hr (hbd _) (hI _ (by omega))
    · have hr : (zs.take 30).length * 8 ≤ 140737488351232 := by rw [List.length_take]; omega
      exact walk_long (some a') len cap (zs.take 30) W hl hm (by omega) hr (hbd _) (hI _ (by omega))

theorem over : Rows.numSumsRow.holds Try.pinned (OpenSpec.ofChange Rows.numSumsSpec) :=
  OpenClaim.holds_of_wide 4 Try.f4 rfl rfl rfl rfl rfl rfl rfl ⟨rfl, rfl, rfl, rfl, rfl⟩ rfl rfl rfl rfl rfl (by kernel_rfl) Try.func4 (by kernel_rfl)
    (of_decide_eq_true (by kernel_rfl)) (by unfold Func.isWrapper; first | (rw [if_pos (by decide +kernel)]; kernel_rfl) | (rw [if_neg (by decide +kernel)]; exact ⟨rfl, rfl⟩))
    (fun os started H enc _ => lifted os started H enc)

theorem proved : Rows.NumSumsSaid := over
#print axioms proved

end Go.Proofs.Ythipniehnniibaa.numSums

/-
  The answer's own sum (package consignref01).
-/
import Derived.Test.YthipniehnniibaaNumWide6
import Derived.Deep.RegionHeld3
namespace Go.Proofs.Ythipniehnniibaa.Num
open Go.RowKit Go.Proofs.Ythipniehnniibaa.Mem
set_option linter.unusedVariables false

theorem keep2 {b off k : Nat} {x : Int} {w0 W V : World} (h : W.cell? ⟨b, off + k, none⟩ = some (.int .i64 x) ∧ Below w0.heap.size w0 W) (hb : b < w0.heap.size) (hk : Below W.heap.size W V) :
    V.cell? ⟨b, off + k, none⟩ = some (.int .i64 x) ∧ Below w0.heap.size w0 V :=
  ⟨(hk.cell (p := ⟨b, off + k, none⟩) (Nat.lt_of_lt_of_le hb h.2.size)).trans h.1, h.2.trans (hk.mono h.2.size)⟩

set_option maxRecDepth 100000 in
set_option maxHeartbeats 4000000 in
theorem RSum_some (b off cap : Nat) (xs : List Int) (hreach : xs.length * 8 ≤ 140737488351232)
    (hxs : ∀ j, j < xs.length → -9223372036854775808 ≤ xs[j]?.getD 0 ∧ xs[j]?.getD 0 ≤ 9223372036854775807) (w : World) (hb : b < w.heap.size)
    (hc : ∀ j, j < xs.length → w.cell? ⟨b, off + j, none⟩ = some (.int .i64 (xs[j]?.getD 0))) :
    Calls Try.prog 18 #[.slice (some ⟨b, off, none⟩) xs.length cap] w fun e w' => e = .returned (.tuple #[.int .i64 (sumV xs), .bool (sumB xs)]) ∧ Below w.heap.size w w' := by
  go_enter Try.func18, Try.ntmps18
  go_wp2
  go_loopw [4, 5] (fun s i wr => ∃ k : Nat, k ≤ xs.length ∧ s = .int .i64 (lastV 0 (upto xs k)) ∧ i = .int .i64 k ∧ (∀ p ∈ upto xs k, p.2 = true) ∧ Below w.heap.size w wr)
    (fun _ i _ => xs.length - (intOf i).toNat)
  case atStart => exact ⟨0, Nat.zero_le _, rfl, rfl, fun p hp => (by cases hp), Below.refl _ _⟩
  case round =>
    obtain ⟨k, hk, rfl, rfl, hall, hnx⟩ := hrel
    by_cases hlt : k < xs.length
    · have hcx : wr.cell? ⟨b, off + k, none⟩ = some (.int .i64 (xs[k]?.getD 0)) := (hnx.cell (p := ⟨b, off + k, none⟩) hb).trans (hc k hlt)
      have hxk := hxs k hlt
      rw [List.getElem?_eq_getElem hlt, Option.getD_some] at hxk hcx
      have hsucc := Lib.hid (upto_succ xs hlt)
      have hbd := upto_bd xs k
      obtain ⟨x, hx⟩ : ∃ x, xs[k] = x := ⟨_, rfl⟩
      rw [hx] at hxk hcx
      have hx' := Lib.hid hx
      clear hx
      obtain ⟨n, hn⟩ : ∃ n, lastV 0 (upto xs k) = n := ⟨_, rfl⟩
      rw [hn] at hbd
      have hn' := Lib.hid hn
      rw [hn]
      clear hn
      obtain ⟨hx1, hx2⟩ := hxk
      obtain ⟨hs1, hs2⟩ := hbd
      have hall' := Lib.hid hall
      clear hall hc hxs
      go_wp2
      go_region_held3 (fun w' => w'.cell? ⟨b, off + k, none⟩ = some (.int .i64 x) ∧ Below w.heap.size w w') (first | exact ⟨hcx, hnx.drew⟩ | exact keep2 (by assumption) hb (by assumption))
        (first
          | (go_at_call 8; refine (Of_any _ _ (by omega) (by omega)).mono ?_; rintro e w' ⟨rfl, hbb⟩)
          | (go_at_call 11; refine (Add_ofs _ _ _ (by omega) (by omega) (by omega) (by omega)).mono ?_; rintro e w' ⟨⟨v, rfl, hv⟩, hbb⟩)
          | (go_at_call 10; refine (Fits_any _ _ (by assumption) _).mono ?_; rintro e w' ⟨rfl, hbb⟩))
      have hH : w'.cell? ⟨b, off + k, none⟩ = some (.int .i64 x) ∧ Below w.heap.size w w' := by assumption
      have hB := hH.2
      clear hH
      rcases hf : inR (n + x) with _ | _
      · have hp : sumB xs = false := by
          have h1 := upto_prefix xs (k + 1)
          rw [hsucc.out, hx'.out, hn'.out] at h1
          exact sumB_no h1 (List.mem_append_right _ (List.mem_singleton.2 rfl)) hf
        have hp1 := Lib.hid hp
        have hp2 := Lib.hid (sumV_no hp)
        clear hp
        go_wp2
        go_ret2
        exact ⟨ret_ib hp2.out.symm hp1.out.symm, hB⟩
      · have hfi := Lib.hid (fit_in hf)
        have hff := Lib.hid hf
        go_wp2
        go_roundw
        case rel =>
          refine ⟨k + 1, by omega, ?_, by go_num, ?_, hB⟩
          · rw [hsucc.out, lastV_snoc, hx'.out, hn'.out]
          · rw [hsucc.out, hx'.out, hn'.out]
            intro p hp
            rcases List.mem_append.1 hp with hp | hp
            · exact hall'.out p hp
            · rw [List.mem_singleton.1 hp]
              exact hff.out
        case measure => simp [intOf]; omega
    · obtain rfl : k = xs.length := by omega
      have hy : sumB xs = true := by
        rw [upto_all] at hall
        exact sumB_of_all hall
      have hv := sumV_yes hy
      rw [← upto_all] at hv
      have hy' := Lib.hid hy
      have hv' := Lib.hid hv
      clear hy hv hall
      go_wp2
      go_ret2
      exact ⟨ret_ib hv'.out.symm hy'.out.symm, hnx⟩

set_option maxRecDepth 100000 in
set_option maxHeartbeats 1000000 in
theorem RSum_nil (a : Option Addr) (cap : Nat) (w : World) :
    Calls Try.prog 18 #[.slice a 0 cap] w fun e w' => e = .returned (.tuple #[.int .i64 (sumV []), .bool (sumB [])]) ∧ Below w.heap.size w w' := by
  go_enter Try.func18, Try.ntmps18
  go_wp2
  refine wp_loop_rounds 1 ?_
  rw [rounds_succ]
  go_wp2
  go_ret2
  exact ⟨rfl, Below.refl _ _⟩

theorem RSum_any (sv : Value) (xs : List Int) (hreach : xs.length * 8 ≤ 140737488351232)
    (hxs : ∀ j, j < xs.length → -9223372036854775808 ≤ xs[j]?.getD 0 ∧ xs[j]?.getD 0 ≤ 9223372036854775807) (w : World) (hI : Ints w.heap.size w sv xs) :
    Calls Try.prog 18 #[sv] w fun e w' => e = .returned (.tuple #[.int .i64 (sumV xs), .bool (sumB xs)]) ∧ Below w.heap.size w w' := by
  rcases hI with ⟨a, cap, rfl, rfl⟩ | ⟨b, off, cap, rfl, hb, hc⟩
  · exact RSum_nil a cap w
  · exact RSum_some b off cap xs hreach hxs w hb hc

end Go.Proofs.Ythipniehnniibaa.Num

/-
  Contracts of a draft's next, place and window: what they give lies in its range, and only the draft turns.
-/
import Derived.Test.YtlkijbakfoabaaaDoorSched
import Derived.Test.YtlkijbakfoabaaaDoorSceneAt
import Derived.Deep.CutRange
namespace Go.Proofs.YtlkijbakfoabaaaDoor.Scene
open Go.RowKit Go.Sort Go.Proofs.YtlkijbakfoabaaaDoor.Mem
set_option linter.unusedVariables false

def byV (b : Int) : List Value := [.int .u8 b]
/-- A draft: its bytes, its three sizes, how far it has read. -/
structure DraftAt (W : World) (g : Nat) (sv : Value) (bs : List Int) (a b c k : Int) : Prop where
  box : At W g 25 #[sv, .int .u8 a, .int .u8 b, .int .u8 c, .int .i64 k]
  row : RowB g W sv 1 (bs.map byV)
  byte : ∀ x ∈ bs, 0 ≤ x ∧ x < 256

theorem put_grown (w : World) (g i : Nat) (v : Value) : w.grownBy (w.setCell ⟨g, i, none⟩ v) (some g) :=
  ⟨rfl, rfl, rfl, by simp [World.setCell], fun k _ hn => Below.heap_setCell w ⟨g, i, none⟩ v k (fun e => hn (by rw [e]))⟩

set_option maxRecDepth 100000 in
set_option maxHeartbeats 1000000 in
theorem next_any (w : World) (g : Nat) (sv : Value) (bs : List Int) (a b c k n : Int) (h : DraftAt w g sv bs a b c k) (hk : 0 ≤ k ∧ k < 1000000) (hn : 1 ≤ n ∧ n ≤ 1000000) :
    Calls Tryd.prog 23 #[.pointer (some ⟨g, 0, none⟩), .int .i64 n] w fun e w' =>
      (∃ r, e = .returned (.int .i64 r) ∧ 0 ≤ r ∧ r < n) ∧ DraftAt w' g sv bs a b c (k + 1) ∧ w.grownBy w' (some g) := by
  obtain ⟨hB, hR, hY⟩ := h
  obtain ⟨x, cap, rfl, hl, hcap, _⟩ := id hR
  simp only [List.length_map] at hl hR hB ⊢
  unfold maxLen at hcap
  have p0 := hB.cell 0
  have p4 := hB.cell 4
  simp at p0 p4
  have f4 := hB.free 4
  have hB' := hB.put 4 (.int .i64 (k + 1))
  simp at hB'
  have q0 := hB'.cell 0
  have q4 := hB'.cell 4
  simp at q0 q4
  have hBl := Lib.hid hB'
  clear hB hB'
  go_enter Tryd.func23, Tryd.ntmps23
  have hn0 : (n == 0) = false := by simp; omega
  have hnn : n ≠ 0 := by omega
  have hm0 : 0 ≤ (k + 1) % n := Int.emod_nonneg _ hnn
  have hm1 : (k + 1) % n < n := Int.emod_lt_of_pos _ (by omega)
  have hbw : Below g w (w.setCell ⟨g, 4, none⟩ (.int .i64 (k + 1))) := (Below.refl g w).grown (put_grown w g 4 _) (by have := hBl.out.inside; simpa using Nat.le_of_lt this) (fun b e => by cases e; exact Nat.le_refl _)
  have hR' := hR.keep hbw (Nat.le_refl _)
  have hend := Lib.hid (And.intro (DraftAt.mk (bs := bs) hBl.out hR' hY) (put_grown w g 4 (.int .i64 (k + 1))))
  by_cases h0 : bs.length = 0
  · clear hbw hR hR'
    go_wp2_with fail
    go_ret
    exact ⟨⟨_, rfl, hm0, hm1⟩, hend.out.1, hend.out.2⟩
  · obtain ⟨j, hj⟩ : ∃ j : Nat, (k + 1) % (bs.length : Int) = j := ⟨((k + 1) % (bs.length : Int)).toNat, (Int.toNat_of_nonneg (Int.emod_nonneg _ (by omega))).symm⟩
    have hjl : j < bs.length := by
      have := Int.emod_lt_of_pos (k + 1) (show (0 : Int) < bs.length by omega)
      omega
    obtain ⟨q, hq⟩ : ∃ q, (k + 1) / (bs.length : Int) = q := ⟨_, rfl⟩
    have hq0 : 0 ≤ q := by rw [← hq]; exact Int.ediv_nonneg (by omega) (by omega)
    have hq1 : q ≤ k + 1 := by rw [← hq]; exact Int.ediv_le_self _ (by omega)
    have hx : bs[j]? = some (bs[j]'hjl) := List.getElem?_eq_getElem hjl
    have hy := hY _ (List.getElem_mem hjl)
    generalize bs[j]'hjl = y at hx hy
    obtain ⟨gx, ox, rfl, hgx, hcx⟩ := RowB.row hR' (j := j) (r := byV y) (by rw [List.getElem?_map, hx]; rfl)
    have d0 := hcx 0 _ rfl
    simp at d0
    have hl0 : ((bs.length : Int) == 0) = false := beq_eq_false_iff_ne.2 (by omega)
    have hs0 : 0 ≤ (y + q) % n := Int.emod_nonneg _ hnn
    have hs1 : (y + q) % n < n := Int.emod_lt_of_pos _ (by omega)
    clear hcx hR hR' hbw hY hx
    go_upto_region 4 with fail
    go_quiet (fail)
    go_wp2_with fail
    go_ret
    exact ⟨⟨_, rfl, hs0, hs1⟩, ⟨hend.out.1.box, hend.out.1.row, hend.out.1.byte⟩, ⟨hend.out.2.os, hend.out.2.tape, hend.out.2.output, hend.out.2.size, hend.out.2.block⟩⟩

end Go.Proofs.YtlkijbakfoabaaaDoor.Scene

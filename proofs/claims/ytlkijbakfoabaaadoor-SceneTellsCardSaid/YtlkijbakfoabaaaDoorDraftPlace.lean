/-
  Contracts of a draft's place and window.
-/
import Derived.Test.YtlkijbakfoabaaaDoorDraftNext
namespace Go.Proofs.YtlkijbakfoabaaaDoor.Scene
open Go.RowKit Go.Sort Go.Proofs.YtlkijbakfoabaaaDoor.Mem
set_option linter.unusedVariables false

theorem DraftAt.alloc {W : World} {g : Nat} {sv : Value} {bs : List Int} {a b c k : Int} (h : DraftAt W g sv bs a b c k) (o : Obj) : DraftAt (W.alloc o) g sv bs a b c k :=
  ⟨h.box.alloc o, h.row.keep ((Below.refl g W).alloc (Nat.le_of_lt h.box.inside) o) (Nat.le_refl _), h.byte⟩
theorem DraftAt.far {W : World} {g : Nat} {sv : Value} {bs : List Int} {a b c k : Int} (h : DraftAt W g sv bs a b c k) {q : Nat} (hq : g < q) (i : Nat) (v : Value) : DraftAt (W.setCell ⟨q, i, none⟩ v) g sv bs a b c k :=
  ⟨h.box.far (by omega) i v, h.row.keep ((Below.refl g W).grown (put_grown W q i v) (Nat.le_of_lt h.box.inside) (fun b e => by cases e; omega)) (Nat.le_refl _), h.byte⟩

theorem own_grown {w5 W V : World} {r row : Option Nat} (h : w5.grownBy W r) (hg : W.grownBy V row) (hr : ∀ b, row = some b → w5.heap.size ≤ b) : w5.grownBy V r :=
  ⟨hg.os.trans h.os, hg.tape.trans h.tape, hg.output.trans h.output, Nat.le_trans h.size hg.size, fun k hk hn => (hg.block k (by have := h.size; omega) (fun e => by have := hr k e.symm; omega)).trans (h.block k hk hn)⟩

theorem res_two {fn : Func} {p : Tmp} {t : TypeId} (h : fn.results = #[.cell p t]) (ht : t = 55 ∨ t = 64) {tmps : Array Value} {w : World} {g : Nat} {x0 x1 : Value} (hp : tmps.getD p undef = .pointer (some ⟨g, 0, none⟩))
    (hA : At w g t #[x0, x1]) : (results fn tmps).run Tryd.prog w = .ok (.agg #[x0, x1]) w := by
  have hp' : tmps[p]?.getD undef = .pointer (some ⟨g, 0, none⟩) := by simpa using hp
  have c0 := hA.cell 0
  have c1 := hA.cell 1
  simp at c0 c1
  rcases ht with rfl | rfl <;> simp only [results, h] <;> go_simp

set_option maxRecDepth 100000 in
set_option maxHeartbeats 1000000 in
theorem dplace_any (w : World) (g : Nat) (sv : Value) (bs : List Int) (a b c k : Int) (h : DraftAt w g sv bs a b c k) (hk : 0 ≤ k ∧ k < 900000) :
    Calls Tryd.prog 21 #[.pointer (some ⟨g, 0, none⟩)] w fun e w' =>
      (∃ x y, e = .returned (.agg #[.int .i64 x, .int .i64 y]) ∧ (500 ≤ x ∧ x < 530) ∧ 500 ≤ y ∧ y < 530) ∧ DraftAt w' g sv bs a b c (k + 2) ∧ w.grownBy w' (some g) := by
  have hgi := h.box.inside
  have h1 := h.alloc (.cells #[.int .i64 0, .int .i64 0] 55)
  have hA := At.new w 55 #[.int .i64 0, .int .i64 0]
  have hg1 : w.grownBy (w.alloc (.cells #[.int .i64 0, .int .i64 0] 55)) (some g) := World.grownBy_alloc _ _ _
  obtain ⟨q, hq⟩ : ∃ q, q = w.heap.size := ⟨_, rfl⟩
  rw [← hq] at hA
  have hqg : g < q := by omega
  have hqw : w.heap.size ≤ q := by omega
  clear h hgi
  go_enter Tryd.func21, Tryd.ntmps21
  go_upto_region 1 with fail
  rw [← hq]
  obtain ⟨w1, hw1⟩ : ∃ w1, w.alloc (.cells #[.int .i64 0, .int .i64 0] 55) = w1 := ⟨_, rfl⟩
  rw [hw1] at h1 hA hg1 ⊢
  clear hw1 hq
  go_wp2_with fail
  refine (next_any _ g sv bs a b c k 30 h1 (by omega) (by omega)).mono ?_
  rintro e w2 ⟨⟨r1, rfl, hr1, hr2⟩, h2, hg2⟩
  have hA2 := (hg2.block q hA.inside (fun e => by cases e; omega)).trans hA
  go_wp2_with fail
  refine (next_any _ g sv bs a b c (k + 1) 30 h2 (by omega) (by omega)).mono ?_
  rintro e w3 ⟨⟨r2, rfl, hr3, hr4⟩, h3, hg3⟩
  replace hA2 : At w2 q 55 #[.int .i64 0, .int .i64 0] := hA2
  have hA3 : At w3 q 55 #[.int .i64 0, .int .i64 0] := (hg3.block q hA2.inside (fun e => by cases e; omega)).trans hA2
  have c0 := hA3.cell 0
  have c1 := hA3.cell 1
  simp at c0 c1
  have f0 := hA3.free 0
  have f1 := hA3.free 1
  have hE := (h3.far hqg 0 (.int .i64 (500 + r1))).far hqg 1 (.int .i64 (500 + r2))
  rw [show k + 1 + 1 = k + 2 by omega] at hE
  have hP := (hA3.put 0 (.int .i64 (500 + r1))).put 1 (.int .i64 (500 + r2))
  simp at hP
  have hG := Lib.hid (And.intro hg1 (And.intro hg2 hg3))
  have hE' := Lib.hid hE
  have hP' := Lib.hid hP
  clear hg1 hg2 hg3 h1 h2 h3 hA hA2 hE hP
  go_wp2
  refine bodyPost_ret (res_two rfl (.inl rfl) rfl hP'.out) rfl ⟨⟨_, _, rfl, ⟨by omega, by omega⟩, by omega, by omega⟩, hE'.out, ?_⟩
  exact own_grown (own_grown ((hG.out.1.trans hG.out.2.1).trans hG.out.2.2) (put_grown _ q 0 _) (fun b e => by cases e; exact hqw)) (put_grown _ q 1 _) (fun b e => by cases e; exact hqw)

set_option maxRecDepth 100000 in
set_option maxHeartbeats 1000000 in
theorem dwindow_any (w : World) (g : Nat) (sv : Value) (bs : List Int) (a b c k : Int) (h : DraftAt w g sv bs a b c k) (hk : 0 ≤ k ∧ k < 900000) (A M : Int) (hA0 : 0 ≤ A ∧ A ≤ 1000) (hM : 1 ≤ M ∧ M ≤ 1000) :
    Calls Tryd.prog 22 #[.pointer (some ⟨g, 0, none⟩), .int .i64 A, .int .i64 M] w fun e w' =>
      (∃ r s, e = .returned (.agg #[.int .i64 (A + 4 * r), .int .i64 (A + 4 * r + 10 + 3 * s)]) ∧ (0 ≤ r ∧ r < M) ∧ 0 ≤ s ∧ s < 120) ∧ DraftAt w' g sv bs a b c (k + 2) ∧ w.grownBy w' (some g) := by
  have hgi := h.box.inside
  have h1 := h.alloc (.cells #[.int .i64 0, .int .i64 0] 64)
  have hA := At.new w 64 #[.int .i64 0, .int .i64 0]
  have hg1 : w.grownBy (w.alloc (.cells #[.int .i64 0, .int .i64 0] 64)) (some g) := World.grownBy_alloc _ _ _
  obtain ⟨q, hq⟩ : ∃ q, q = w.heap.size := ⟨_, rfl⟩
  rw [← hq] at hA
  have hqg : g < q := by omega
  have hqw : w.heap.size ≤ q := by omega
  clear h hgi
  go_enter Tryd.func22, Tryd.ntmps22
  go_upto_region 1 with fail
  rw [← hq]
  obtain ⟨w1, hw1⟩ : ∃ w1, w.alloc (.cells #[.int .i64 0, .int .i64 0] 64) = w1 := ⟨_, rfl⟩
  rw [hw1] at h1 hA hg1 ⊢
  clear hw1 hq
  go_wp2_with fail
  refine (next_any _ g sv bs a b c k M h1 (by omega) (by omega)).mono ?_
  rintro e w2 ⟨⟨r1, rfl, hr1, hr2⟩, h2, hg2⟩
  have hA2 := (hg2.block q hA.inside (fun e => by cases e; omega)).trans hA
  go_wp2_with fail
  refine (next_any _ g sv bs a b c (k + 1) 120 h2 (by omega) (by omega)).mono ?_
  rintro e w3 ⟨⟨r2, rfl, hr3, hr4⟩, h3, hg3⟩
  replace hA2 : At w2 q 64 #[.int .i64 0, .int .i64 0] := hA2
  have hA3 : At w3 q 64 #[.int .i64 0, .int .i64 0] := (hg3.block q hA2.inside (fun e => by cases e; omega)).trans hA2
  have c0 := hA3.cell 0
  have c1 := hA3.cell 1
  simp at c0 c1
  have f0 := hA3.free 0
  have f1 := hA3.free 1
  have hE := (h3.far hqg 0 (.int .i64 (A + 4 * r1))).far hqg 1 (.int .i64 (A + 4 * r1 + 10 + 3 * r2))
  rw [show k + 1 + 1 = k + 2 by omega] at hE
  have hP := (hA3.put 0 (.int .i64 (A + 4 * r1))).put 1 (.int .i64 (A + 4 * r1 + 10 + 3 * r2))
  simp at hP
  have hG := Lib.hid (And.intro hg1 (And.intro hg2 hg3))
  have hE' := Lib.hid hE
  have hP' := Lib.hid hP
  clear hg1 hg2 hg3 h1 h2 h3 hA hA2 hE hP
  go_wp2
  refine bodyPost_ret (res_two rfl (.inr rfl) rfl hP'.out) rfl ⟨⟨_, _, rfl, ⟨hr1, hr2⟩, hr3, hr4⟩, hE'.out, ?_⟩
  exact own_grown (own_grown ((hG.out.1.trans hG.out.2.1).trans hG.out.2.2) (put_grown _ q 0 _) (fun b e => by cases e; exact hqw)) (put_grown _ q 1 _) (fun b e => by cases e; exact hqw)

end Go.Proofs.YtlkijbakfoabaaaDoor.Scene

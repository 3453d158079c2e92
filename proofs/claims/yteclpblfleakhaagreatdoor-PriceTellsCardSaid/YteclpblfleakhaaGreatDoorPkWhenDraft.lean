import Derived.Test.YteclpblfleakhaaGreatDoorPkSched

namespace Go.Proofs.YteclpblfleakhaaGreatDoor.When
open Go.RowKit Go.Sort Go.Proofs.YteclpblfleakhaaGreatDoor.Mem Go.Proofs.YteclpblfleakhaaGreatDoor.Route
set_option linter.unusedVariables false
def byV (b : Int) : List Value := [.int .u8 b]
structure DraftAt (W : World) (g : Nat) (sv : Value) (bs : List Int) (a b k : Int) : Prop where
 box : At W g 24 #[sv, .int .u8 a, .int .u8 b, .int .i64 k]
 row : RowB g W sv 1 (bs.map byV)
 byte : ∀ x ∈ bs, 0 ≤ x ∧ x < 256
 na : 0 ≤ a ∧ a < 256
 nb : 0 ≤ b ∧ b < 256
theorem put_grown (w : World) (g i : Nat) (v : Value) : w.grownBy (w.setCell ⟨g, i, none⟩ v) (some g) :=
 ⟨rfl, rfl, rfl, by simp [World.setCell], fun k _ hn => Below.heap_setCell w ⟨g, i, none⟩ v k (fun e => hn (by rw [e]))⟩
theorem DraftAt.alloc {W : World} {g : Nat} {sv : Value} {bs : List Int} {a b k : Int} (h : DraftAt W g sv bs a b k) (o : Obj) : DraftAt (W.alloc o) g sv bs a b k :=
 ⟨h.box.alloc o, h.row.keep ((Below.refl g W).alloc (Nat.le_of_lt h.box.inside) o) (Nat.le_refl _), h.byte, h.na, h.nb⟩
theorem DraftAt.far {W : World} {g : Nat} {sv : Value} {bs : List Int} {a b k : Int} (h : DraftAt W g sv bs a b k) {q : Nat} (hq : g < q) (i : Nat) (v : Value) : DraftAt (W.setCell ⟨q, i, none⟩ v) g sv bs a b k :=
 ⟨h.box.far (by omega) i v, h.row.keep ((Below.refl g W).grown (put_grown W q i v) (Nat.le_of_lt h.box.inside) (fun b e => by cases e; omega)) (Nat.le_refl _), h.byte, h.na, h.nb⟩
theorem DraftAt.under {W W' : World} {g : Nat} {sv : Value} {bs : List Int} {a b k : Int} (h : DraftAt W g sv bs a b k) {row : Option Nat} (hg : W.grownBy W' row) (hr : ∀ r, row = some r → g < r) : DraftAt W' g sv bs a b k :=
 ⟨(hg.block g h.box.inside (fun e => by have := hr g e.symm; omega)).trans h.box, h.row.keep ((Below.refl g W).grown hg (Nat.le_of_lt h.box.inside) (fun b e => Nat.le_of_lt (hr b e))) (Nat.le_refl _), h.byte, h.na, h.nb⟩
theorem grown_far {w v : World} {g : Nat} (h : w.grownBy v (some g)) {q : Nat} (hq : w.heap.size ≤ q) (i : Nat) (x : Value) : w.grownBy (v.setCell ⟨q, i, none⟩ x) (some g) :=
 ⟨h.os, h.tape, h.output, by simpa using h.size, fun j hj hne => (Below.heap_setCell _ _ _ _ (fun e => by have : j = q := e; omega)).trans (h.block j hj hne)⟩
set_option maxRecDepth 100000 in
set_option maxHeartbeats 1000000 in
theorem next_any (w : World) (g : Nat) (sv : Value) (bs : List Int) (a b k n : Int) (h : DraftAt w g sv bs a b k) (hk : 0 ≤ k ∧ k < 1000000) (hn : 1 ≤ n ∧ n ≤ 1000000) :
 Calls Tryz.prog 27 #[.pointer (some ⟨g, 0, none⟩), .int .i64 n] w fun e w' =>
  (∃ r, e = .returned (.int .i64 r) ∧ 0 ≤ r ∧ r < n) ∧ DraftAt w' g sv bs a b (k + 1) ∧ w.grownBy w' (some g) := by
 obtain ⟨hB, hR, hY, hna, hnb⟩ := h
 obtain ⟨x, cap, rfl, hl, hcap, hx0, _⟩ := id hR
 simp only [List.length_map] at hl hR hB ⊢
 unfold maxLen at hcap
 have p0 := hB.cell 0
 have p4 := hB.cell 3
 simp at p0 p4
 have f4 := hB.free 3
 have hB' := hB.put 3 (.int .i64 (k + 1))
 simp at hB'
 have q0 := hB'.cell 0
 have q4 := hB'.cell 3
 simp at q0 q4
 have hBl := Lib.hid hB'
 clear hB hB' hx0
 go_enter Tryz.func27, Tryz.ntmps27
 have hn0 : (n == 0) = false := by simp; omega
 have hnn : n ≠ 0 := by omega
 have hm0 : 0 ≤ (k + 1) % n := Int.emod_nonneg _ hnn
 have hm1 : (k + 1) % n < n := Int.emod_lt_of_pos _ (by omega)
 have hbw : Below g w (w.setCell ⟨g, 3, none⟩ (.int .i64 (k + 1))) := (Below.refl g w).grown (put_grown w g 3 _) (by have := hBl.out.inside; simpa using Nat.le_of_lt this) (fun b e => by cases e; exact Nat.le_refl _)
 have hR' := hR.keep hbw (Nat.le_refl _)
 have hend := Lib.hid (And.intro (DraftAt.mk (bs := bs) hBl.out hR' hY hna hnb) (put_grown w g 3 (.int .i64 (k + 1))))
 clear hna hnb
 by_cases h0 : bs.length = 0
 · clear hbw hR hR'
   go_wp2_with fail
   go_ret
   exact ⟨⟨_, rfl, hm0, hm1⟩, hend.out.1, hend.out.2⟩
 · obtain ⟨j, hj⟩ : ∃ j : Nat, (k + 1) % (bs.length : Int) = j := ⟨((k + 1) % (bs.length : Int)).toNat, (Int.toNat_of_nonneg (Int.emod_nonneg _ (by omega))).symm⟩
   have hjl : j < bs.length := by
    have := Int.emod_lt_of_pos (k + 1) (show (0 : Int) < bs.length by omega)
    omega
   obtain ⟨q, hq⟩ : ∃ q, (k + 1) / (bs.length : Int) = q := ⟨_, rfl⟩
   have hq0 : 0 ≤ q := by rw [← hq]; exact Int.ediv_nonneg (by omega) (by omega)
   have hq1 : q ≤ k + 1 := by rw [← hq]; exact Int.ediv_le_self _ (by omega)
   have hx : bs[j]? = some (bs[j]'hjl) := List.getElem?_eq_getElem hjl
   have hy := hY _ (List.getElem_mem hjl)
   generalize bs[j]'hjl = y at hx hy
   obtain ⟨gx, ox, rfl, hgx, hcx⟩ := RowB.row hR' (j := j) (r := byV y) (by rw [List.getElem?_map, hx]; rfl)
   have d0 := hcx 0 _ rfl
   simp at d0
   have hl0 : ((bs.length : Int) == 0) = false := beq_eq_false_iff_ne.2 (by omega)
   have hs0 : 0 ≤ (y + q) % n := Int.emod_nonneg _ hnn
   have hs1 : (y + q) % n < n := Int.emod_lt_of_pos _ (by omega)
   clear hcx hR hR' hbw hY hx
   go_upto_region 4 with fail
   go_quiet (fail)
   go_wp2_with fail
   go_ret
   exact ⟨⟨_, rfl, hs0, hs1⟩, ⟨hend.out.1.box, hend.out.1.row, hend.out.1.byte, hend.out.1.na, hend.out.1.nb⟩, ⟨hend.out.2.os, hend.out.2.tape, hend.out.2.output, hend.out.2.size, hend.out.2.block⟩⟩
theorem res_dp {fn : Func} {p : Tmp} (h : fn.results = #[.cell p 30]) {tmps : Array Value} {w : World} {g : Nat} {x0 x1 : Value} (hp : tmps.getD p undef = .pointer (some ⟨g, 0, none⟩))
 (hA : At w g 30 #[x0, x1]) : (results fn tmps).run Tryz.prog w = .ok (.agg #[x0, x1]) w := by
 have hp' : tmps[p]?.getD undef = .pointer (some ⟨g, 0, none⟩) := by simpa using hp
 have c0 := hA.cell 0
 have c1 := hA.cell 1
 simp at c0 c1
 simp only [results, h]
 go_simp
theorem res_rq {fn : Func} {p : Tmp} (h : fn.results = #[.cell p 43]) {tmps : Array Value} {w : World} {g : Nat} {x0 x1 x2 x3 x4 x5 x6 x7 x8 x9 : Value} (hp : tmps.getD p undef = .pointer (some ⟨g, 0, none⟩))
 (hA : At w g 43 #[x0, x1, x2, x3, x4, x5, x6, x7, x8, x9]) : (results fn tmps).run Tryz.prog w = .ok (.agg #[x0, x1, x2, x3, x4, x5, x6, x7, x8, x9]) w := by
 have hp' : tmps[p]?.getD undef = .pointer (some ⟨g, 0, none⟩) := by simpa using hp
 have c0 := hA.cell 0
 have c1 := hA.cell 1
 have c2 := hA.cell 2
 have c3 := hA.cell 3
 have c4 := hA.cell 4
 have c5 := hA.cell 5
 have c6 := hA.cell 6
 have c7 := hA.cell 7
 have c8 := hA.cell 8
 have c9 := hA.cell 9
 simp at c0 c1 c2 c3 c4 c5 c6 c7 c8 c9
 simp only [results, h]
 go_simp
theorem res_vh {fn : Func} {p : Tmp} (h : fn.results = #[.cell p 32]) {tmps : Array Value} {w : World} {g : Nat} {x0 x1 x2 x3 x4 : Value} (hp : tmps.getD p undef = .pointer (some ⟨g, 0, none⟩))
 (hA : At w g 32 #[x0, x1, x2, x3, x4]) : (results fn tmps).run Tryz.prog w = .ok (.agg #[x0, x1, x2, x3, x4]) w := by
 have hp' : tmps[p]?.getD undef = .pointer (some ⟨g, 0, none⟩) := by simpa using hp
 have c0 := hA.cell 0
 have c1 := hA.cell 1
 have c2 := hA.cell 2
 have c3 := hA.cell 3
 have c4 := hA.cell 4
 simp at c0 c1 c2 c3 c4
 simp only [results, h]
 go_simp
set_option maxRecDepth 100000 in
set_option maxHeartbeats 1000000 in
theorem dplace_any (w : World) (g : Nat) (sv : Value) (bs : List Int) (a b k : Int) (h : DraftAt w g sv bs a b k) (hk : 0 ≤ k ∧ k < 900000) :
 Calls Tryz.prog 26 #[.pointer (some ⟨g, 0, none⟩)] w fun e w' =>
  (∃ x y, e = .returned (.agg #[.int .i64 x, .int .i64 y]) ∧ (500 ≤ x ∧ x < 520) ∧ 500 ≤ y ∧ y < 520) ∧ DraftAt w' g sv bs a b (k + 2) ∧ w.grownBy w' (some g) := by
 have hgi := h.box.inside
 have h1 := h.alloc (.cells #[.int .i64 0, .int .i64 0] 30)
 have hA := At.new w 30 #[.int .i64 0, .int .i64 0]
 have hg1 : w.grownBy (w.alloc (.cells #[.int .i64 0, .int .i64 0] 30)) (some g) := World.grownBy_alloc _ _ _
 obtain ⟨q, hq⟩ : ∃ q, q = w.heap.size := ⟨_, rfl⟩
 rw [← hq] at hA
 have hqg : g < q := by omega
 have hqw : w.heap.size ≤ q := by omega
 clear h hgi
 go_enter Tryz.func26, Tryz.ntmps26
 go_upto_region 1 with fail
 rw [← hq]
 obtain ⟨w1, hw1⟩ : ∃ w1, w.alloc (.cells #[.int .i64 0, .int .i64 0] 30) = w1 := ⟨_, rfl⟩
 rw [hw1] at h1 hA hg1 ⊢
 clear hw1 hq
 go_wp2_with fail
 refine (next_any _ g sv bs a b k 20 h1 (by omega) (by omega)).mono ?_
 rintro e w2 ⟨⟨r1, rfl, hr1, hr2⟩, h2, hg2⟩
 have hA2 : At w2 q 30 #[.int .i64 0, .int .i64 0] := (hg2.block q hA.inside (fun e => by cases e; omega)).trans hA
 go_wp2_with fail
 refine (next_any _ g sv bs a b (k + 1) 20 h2 (by omega) (by omega)).mono ?_
 rintro e w3 ⟨⟨r2, rfl, hr3, hr4⟩, h3, hg3⟩
 have hA3 : At w3 q 30 #[.int .i64 0, .int .i64 0] := (hg3.block q hA2.inside (fun e => by cases e; omega)).trans hA2
 have c0 := hA3.cell 0
 have c1 := hA3.cell 1
 simp at c0 c1
 have ff := hA3.free
 have hE := (h3.far hqg 0 (.int .i64 (500 + r1))).far hqg 1 (.int .i64 (500 + r2))
 rw [show k + 1 + 1 = k + 2 by omega] at hE
 have hG := grown_far (grown_far ((hg1.trans hg2).trans hg3) hqw 0 (.int .i64 (500 + r1))) hqw 1 (.int .i64 (500 + r2))
 have hR := put2 (y0 := .int .i64 (500 + r1)) (y1 := .int .i64 (500 + r2)) hA3
 have hEH := Lib.hid hE
 have hGH := Lib.hid hG
 have hRH := Lib.hid hR
 clear hE hG hR h1 h2 h3 hg1 hg2 hg3 hA hA2 hA3
 go_wp2
 refine bodyPost_ret (res_dp rfl rfl (by exact hRH.out)) rfl ?_
 exact ⟨⟨_, _, rfl, ⟨by omega, by omega⟩, by omega, by omega⟩, hEH.out, hGH.out⟩
end Go.Proofs.YteclpblfleakhaaGreatDoor.When

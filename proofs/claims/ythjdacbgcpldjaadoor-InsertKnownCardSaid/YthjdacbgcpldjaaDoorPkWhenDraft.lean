import Derived.Test.YthjdacbgcpldjaaDoorPkPlaceDist
import Derived.Test.YthjdacbgcpldjaaDoorPkSched
import Derived.Deep.CutRange
import Derived.Test.YthjdacbgcpldjaaDoorPkWhenTrip
import Derived.Test.YthjdacbgcpldjaaDoorPkRouteLen

/-
  Contracts of a draft's next, Place, Request and Vehicle: what they give lies in its range, and only the draft turns.
-/
namespace Go.Proofs.YthjdacbgcpldjaaDoor.When
open Go.RowKit Go.Sort Go.Proofs.YthjdacbgcpldjaaDoor.Mem Go.Proofs.YthjdacbgcpldjaaDoor.Route
set_option linter.unusedVariables false

def byV (b : Int) : List Value := [.int .u8 b]
/-- A draft: its bytes, how many requests, how wide, how far it has read. -/
structure DraftAt (W : World) (g : Nat) (sv : Value) (bs : List Int) (a b k : Int) : Prop where
  box : At W g 24 #[sv, .int .u8 a, .int .u8 b, .int .i64 k]
  row : RowB g W sv 1 (bs.map byV)
  byte : ∀ x ∈ bs, 0 ≤ x ∧ x < 256
  na : 0 ≤ a ∧ a < 256
  nb : 0 ≤ b ∧ b < 256

theorem put_grown (w : World) (g i : Nat) (v : Value) : w.grownBy (w.setCell ⟨g, i, none⟩ v) (some g) :=
  ⟨rfl, rfl, rfl, by simp [World.setCell], fun k _ hn => Below.heap_setCell w ⟨g, i, none⟩ v k (fun e => hn (by rw [e]))⟩
theorem DraftAt.alloc {W : World} {g : Nat} {sv : Value} {bs : List Int} {a b k : Int} (h : DraftAt W g sv bs a b k) (o : Obj) : DraftAt (W.alloc o) g sv bs a b k :=
  ⟨h.box.alloc o, h.row.keep ((Below.refl g W).alloc (Nat.le_of_lt h.box.inside) o) (Nat.le_refl _), h.byte, h.na, h.nb⟩
theorem DraftAt.far {W : World} {g : Nat} {sv : Value} {bs : List Int} {a b k : Int} (h : DraftAt W g sv bs a b k) {q : Nat} (hq : g < q) (i : Nat) (v : Value) : DraftAt (W.setCell ⟨q, i, none⟩ v) g sv bs a b k :=
  ⟨h.box.far (by omega) i v, h.row.keep ((Below.refl g W).grown (put_grown W q i v) (Nat.le_of_lt h.box.inside) (fun b e => by cases e; omega)) (Nat.le_refl _), h.byte, h.na, h.nb⟩
theorem DraftAt.under {W W' : World} {g : Nat} {sv : Value} {bs : List Int} {a b k : Int} (h : DraftAt W g sv bs a b k) {row : Option Nat} (hg : W.grownBy W' row) (hr : ∀ r, row = some r → g < r) : DraftAt W' g sv bs a b k :=
  ⟨(hg.block g h.box.inside (fun e => by have := hr g e.symm; omega)).trans h.box, h.row.keep ((Below.refl g W).grown hg (Nat.le_of_lt h.box.inside) (fun b e => Nat.le_of_lt (hr b e))) (Nat.le_refl _), h.byte, h.na, h.nb⟩
theorem grown_far {w v : World} {g : Nat} (h : w.grownBy v (some g)) {q : Nat} (hq : w.heap.size ≤ q) (i : Nat) (x : Value) : w.grownBy (v.setCell ⟨q, i, none⟩ x) (some g) :=
  ⟨h.os, h.tape, h.output, by simpa using h.size, fun j hj hne => (Below.heap_setCell _ _ _ _ (fun e => by have : j = q := e; omega)).trans (h.block j hj hne)⟩

set_option maxRecDepth 100000 in
set_option maxHeartbeats 1000000 in
theorem next_any (w : World) (g : Nat) (sv : Value) (bs : List Int) (a b k n : Int) (h : DraftAt w g sv bs a b k) (hk : 0 ≤ k ∧ k < 1000000) (hn : 1 ≤ n ∧ n ≤ 1000000) :
    Calls Tryd.prog 70 #[.pointer (some ⟨g, 0, none⟩), .int .i64 n] w fun e w' =>
      (∃ r, e = .returned (.int .i64 r) ∧ 0 ≤ r ∧ r < n) ∧ DraftAt w' g sv bs a b (k + 1) ∧ w.grownBy w' (some g) := by
  obtain ⟨hB, hR, hY, hna, hnb⟩ := h
  obtain ⟨x, cap, rfl, hl, hcap, hx0, _⟩ := id hR
  simp only [List.length_map] at hl hR hB ⊢
  unfold maxLen at hcap
  have p0 := hB.cell 0
  have p4 := hB.cell 3
  simp at p0 p4
  have f4 := hB.free 3
  have hB' := hB.put 3 (.int .i64 (k + 1))
  simp at hB'
  have q0 := hB'.cell 0
  have q4 := hB'.cell 3
  simp at q0 q4
  have hBl := Lib.hid hB'
  clear hB hB' hx0
  go_enter Tryd.func70, Tryd.ntmps70
  have hn0 : (n == 0) = false := by simp; omega
  have hnn : n ≠ 0 := by omega
  have hm0 : 0 ≤ (k + 1) % n := Int.emod_nonneg _ hnn
  have hm1 : (k + 1) % n < n := Int.emod_lt_of_pos _ (by omega)
  have hbw : Below g w (w.setCell ⟨g, 3, none⟩ (.int .i64 (k + 1))) := (Below.refl g w).grown (put_grown w g 3 _) (by have := hBl.out.inside; simpa using Nat.le_of_lt this) (fun b e => by cases e; exact Nat.le_refl _)
  have hR' := hR.keep hbw (Nat.le_refl _)
  have hend := Lib.hid (And.intro (DraftAt.mk (bs := bs) hBl.out hR' hY hna hnb) (put_grown w g 3 (.int .i64 (k + 1))))
  clear hna hnb
  by_cases h0 : bs.length = 0
  · clear hbw hR hR'
    go_wp2_with fail
    go_ret
    exact ⟨⟨_, rfl, hm0, hm1⟩, hend.out.1, hend.out.2⟩
  · obtain ⟨j, hj⟩ : ∃ j : Nat, (k + 1) % (bs.length : Int) = j := ⟨((k + 1) % (bs.length : Int)).toNat, (Int.toNat_of_nonneg (Int.emod_nonneg _ (by omega))).symm⟩
    have hjl : j < bs.length := by
      have := Int.emod_lt_of_pos (k + 1) (show (0 : Int) < bs.length by omega)
      omega
    obtain ⟨q, hq⟩ : ∃ q, (k + 1) / (bs.length : Int) = q := ⟨_, rfl⟩
    have hq0 : 0 ≤ q := by rw [← hq]; exact Int.ediv_nonneg (by omega) (by omega)
    have hq1 : q ≤ k + 1 := by rw [← hq]; exact Int.ediv_le_self _ (by omega)
    have hx : bs[j]? = some (bs[j]'hjl) := List.getElem?_eq_getElem hjl
    have hy := hY _ (List.getElem_mem hjl)
    generalize bs[j]'hjl = y at hx hy
    obtain ⟨gx, ox, rfl, hgx, hcx⟩ := RowB.row hR' (j := j) (r := byV y) (by rw [List.getElem?_map, hx]; rfl)
    have d0 := hcx 0 _ rfl
    simp at d0
    have hl0 : ((bs.length : Int) == 0) = false := beq_eq_false_iff_ne.2 (by omega)
    have hs0 : 0 ≤ (y + q) % n := Int.emod_nonneg _ hnn
    have hs1 : (y + q) % n < n := Int.emod_lt_of_pos _ (by omega)
    clear hcx hR hR' hbw hY hx
    go_upto_region 4 with fail
    go_quiet (fail)
    go_wp2_with fail
    go_ret
    exact ⟨⟨_, rfl, hs0, hs1⟩, ⟨hend.out.1.box, hend.out.1.row, hend.out.1.byte, hend.out.1.na, hend.out.1.nb⟩, ⟨hend.out.2.os, hend.out.2.tape, hend.out.2.output, hend.out.2.size, hend.out.2.block⟩⟩

theorem res_dp {fn : Func} {p : Tmp} (h : fn.results = #[.cell p 26]) {tmps : Array Value} {w : World} {g : Nat} {x0 x1 : Value} (hp : tmps.getD p undef = .pointer (some ⟨g, 0, none⟩))
    (hA : At w g 26 #[x0, x1]) : (results fn tmps).run Tryd.prog w = .ok (.agg #[x0, x1]) w := by
  have hp' : tmps[p]?.getD undef = .pointer (some ⟨g, 0, none⟩) := by simpa using hp
  have c0 := hA.cell 0
  have c1 := hA.cell 1
  simp at c0 c1
  simp only [results, h]
  go_simp
theorem res_rq {fn : Func} {p : Tmp} (h : fn.results = #[.cell p 60]) {tmps : Array Value} {w : World} {g : Nat} {x0 x1 x2 x3 x4 x5 x6 x7 x8 x9 : Value} (hp : tmps.getD p undef = .pointer (some ⟨g, 0, none⟩))
    (hA : At w g 60 #[x0, x1, x2, x3, x4, x5, x6, x7, x8, x9]) : (results fn tmps).run Tryd.prog w = .ok (.agg #[x0, x1, x2, x3, x4, x5, x6, x7, x8, x9]) w := by
  have hp' : tmps[p]?.getD undef = .pointer (some ⟨g, 0, none⟩) := by simpa using hp
  have c0 := hA.cell 0
  have c1 := hA.cell 1
  have c2 := hA.cell 2
  have c3 := hA.cell 3
  have c4 := hA.cell 4
  have c5 := hA.cell 5
  have c6 := hA.cell 6
  have c7 := hA.cell 7
  have c8 := hA.cell 8
  have c9 := hA.cell 9
  simp at c0 c1 c2 c3 c4 c5 c6 c7 c8 c9
  simp only [results, h]
  go_simp
theorem res_vh {fn : Func} {p : Tmp} (h : fn.results = #[.cell p 28]) {tmps : Array Value} {w : World} {g : Nat} {x0 x1 x2 x3 x4 : Value} (hp : tmps.getD p undef = .pointer (some ⟨g, 0, none⟩))
    (hA : At w g 28 #[x0, x1, x2, x3, x4]) : (results fn tmps).run Tryd.prog w = .ok (.agg #[x0, x1, x2, x3, x4]) w := by
  have hp' : tmps[p]?.getD undef = .pointer (some ⟨g, 0, none⟩) := by simpa using hp
  have c0 := hA.cell 0
  have c1 := hA.cell 1
  have c2 := hA.cell 2
  have c3 := hA.cell 3
  have c4 := hA.cell 4
  simp at c0 c1 c2 c3 c4
  simp only [results, h]
  go_simp

set_option maxRecDepth 100000 in
set_option maxHeartbeats 1000000 in
theorem dplace_any (w : World) (g : Nat) (sv : Value) (bs : List Int) (a b k : Int) (h : DraftAt w g sv bs a b k) (hk : 0 ≤ k ∧ k < 900000) :
    Calls Tryd.prog 69 #[.pointer (some ⟨g, 0, none⟩)] w fun e w' =>
      (∃ x y, e = .returned (.agg #[.int .i64 x, .int .i64 y]) ∧ (500 ≤ x ∧ x < 520) ∧ 500 ≤ y ∧ y < 520) ∧ DraftAt w' g sv bs a b (k + 2) ∧ w.grownBy w' (some g) := by
  have hgi := h.box.inside
  have h1 := h.alloc (.cells #[.int .i64 0, .int .i64 0] 26)
  have hA := At.new w 26 #[.int .i64 0, .int .i64 0]
  have hg1 : w.grownBy (w.alloc (.cells #[.int .i64 0, .int .i64 0] 26)) (some g) := World.grownBy_alloc _ _ _
  obtain ⟨q, hq⟩ : ∃ q, q = w.heap.size := ⟨_, rfl⟩
  rw [← hq] at hA
  have hqg : g < q := by omega
  have hqw : w.heap.size ≤ q := by omega
  clear h hgi
  go_enter Tryd.func69, Tryd.ntmps69
  go_upto_region 1 with fail
  rw [← hq]
  obtain ⟨w1, hw1⟩ : ∃ w1, w.alloc (.cells #[.int .i64 0, .int .i64 0] 26) = w1 := ⟨_, rfl⟩
  rw [hw1] at h1 hA hg1 ⊢
  clear hw1 hq
  go_wp2_with fail
  refine (next_any _ g sv bs a b k 20 h1 (by omega) (by omega)).mono ?_
  rintro e w2 ⟨⟨r1, rfl, hr1, hr2⟩, h2, hg2⟩
  have hA2 : At w2 q 26 #[.int .i64 0, .int .i64 0] := (hg2.block q hA.inside (fun e => by cases e; omega)).trans hA
  go_wp2_with fail
  refine (next_any _ g sv bs a b (k + 1) 20 h2 (by omega) (by omega)).mono ?_
  rintro e w3 ⟨⟨r2, rfl, hr3, hr4⟩, h3, hg3⟩
  have hA3 : At w3 q 26 #[.int .i64 0, .int .i64 0] := (hg3.block q hA2.inside (fun e => by cases e; omega)).trans hA2
  have c0 := hA3.cell 0
  have c1 := hA3.cell 1
  simp at c0 c1
  have ff := hA3.free
  have hE := (h3.far hqg 0 (.int .i64 (500 + r1))).far hqg 1 (.int .i64 (500 + r2))
  rw [show k + 1 + 1 = k + 2 by omega] at hE
  have hG := grown_far (grown_far ((hg1.trans hg2).trans hg3) hqw 0 (.int .i64 (500 + r1))) hqw 1 (.int .i64 (500 + r2))
  have hR := put2 (y0 := .int .i64 (500 + r1)) (y1 := .int .i64 (500 + r2)) hA3
  have hEH := Lib.hid hE
  have hGH := Lib.hid hG
  have hRH := Lib.hid hR
  clear hE hG hR h1 h2 h3 hg1 hg2 hg3 hA hA2 hA3
  go_wp2
  refine bodyPost_ret (res_dp rfl rfl (by exact hRH.out)) rfl ?_
  exact ⟨⟨_, _, rfl, ⟨by omega, by omega⟩, by omega, by omega⟩, hEH.out, hGH.out⟩

end Go.Proofs.YthjdacbgcpldjaaDoor.When

/-
  Contracts of a draft's Request, Vehicle and Requests.
-/
namespace Go.Proofs.YthjdacbgcpldjaaDoor.When
open Go.RowKit Go.Sort Go.Proofs.YthjdacbgcpldjaaDoor.Mem Go.Proofs.YthjdacbgcpldjaaDoor.Route
set_option linter.unusedVariables false

/-- A request, a vehicle, that is drawn: it may be, and its times are small. -/
def Rq.nr (q : Rq) : Prop := (500 ≤ q.fx ∧ q.fx < 520) ∧ (500 ≤ q.fy ∧ q.fy < 520) ∧ (500 ≤ q.tx ∧ q.tx < 520) ∧ (500 ≤ q.ty ∧ q.ty < 520) ∧ (1 ≤ q.ld ∧ q.ld ≤ 9) ∧ 0 ≤ q.sv ∧ q.sv ≤ 3
def Vh.nr (v : Vh) : Prop := (500 ≤ v.hx ∧ v.hx < 520) ∧ (500 ≤ v.hy ∧ v.hy < 520) ∧ 0 ≤ v.st ∧ v.st < 20
def Rq.dr (q : Rq) : Prop := q.chk = 0 ∧ q.pl ≤ 8000 ∧ q.dl ≤ 8000 ∧ q.nr
def Vh.dr (v : Vh) : Prop := v.chk = 0 ∧ v.en ≤ 2000 ∧ v.cp ≤ 1000 ∧ v.nr
theorem rq_ok {fx fy tx ty pe w de ld sv : Int} (h1 : 500 ≤ fx ∧ fx < 520) (h2 : 500 ≤ fy ∧ fy < 520) (h3 : 500 ≤ tx ∧ tx < 520) (h4 : 500 ≤ ty ∧ ty < 520) (h5 : 0 ≤ pe ∧ pe ≤ 3000) (h6 : 0 ≤ w ∧ w ≤ 400) (h7 : 0 ≤ de ∧ de ≤ 3000) (h8 : 1 ≤ ld ∧ ld ≤ 9) (h9 : 0 ≤ sv ∧ sv ≤ 3) :
    Rq.dr ⟨fx, fy, tx, ty, pe, pe + w, de, de + w + 30, ld, sv⟩ := by
  unfold Rq.dr Rq.chk Rq.nr
  rw [Order.chk_iff, Place.mayB_iff, Place.mayB_iff, Window.okB_iff, Window.okB_iff]
  dsimp only
  omega
theorem vh_ok {hx hy cp st en : Int} (h1 : 500 ≤ hx ∧ hx < 520) (h2 : 500 ≤ hy ∧ hy < 520) (h3 : 8 ≤ cp ∧ cp < 28) (h4 : 0 ≤ st ∧ st < 20) (h5 : 300 ≤ en ∧ en < 1100) : Vh.dr ⟨hx, hy, cp, st, en⟩ := by
  unfold Vh.dr Vh.chk Vh.nr
  rw [Order.veh_iff, Place.mayB_iff]
  dsimp only
  omega
theorem grown_refl (w : World) (r : Option Nat) : w.grownBy w r := ⟨rfl, rfl, rfl, Nat.le_refl _, fun _ _ _ => rfl⟩

set_option maxRecDepth 100000 in
set_option maxHeartbeats 4000000 in
theorem drequest_any (w : World) (g : Nat) (sv : Value) (bs : List Int) (a b k F : Int) (h : DraftAt w g sv bs a b k) (hk : 0 ≤ k ∧ k < 800000) (hF : 0 ≤ F ∧ F ≤ 1000) :
    Calls Tryd.prog 68 #[.pointer (some ⟨g, 0, none⟩), .int .i64 F] w fun e w' =>
      (∃ q : Rq, e = .returned (.agg #[.int .i64 q.fx, .int .i64 q.fy, .int .i64 q.tx, .int .i64 q.ty, .int .i64 q.pe, .int .i64 q.pl, .int .i64 q.de, .int .i64 q.dl, .int .i64 q.ld, .int .i64 q.sv]) ∧ q.dr) ∧ DraftAt w' g sv bs a b (k + 8) ∧ w.grownBy w' (some g) := by
  have hgi := h.box.inside
  have h1 := h.alloc (.cells #[.int .i64 0, .int .i64 0, .int .i64 0, .int .i64 0, .int .i64 0, .int .i64 0, .int .i64 0, .int .i64 0, .int .i64 0, .int .i64 0] 60)
  have hA := At.new w 60 #[.int .i64 0, .int .i64 0, .int .i64 0, .int .i64 0, .int .i64 0, .int .i64 0, .int .i64 0, .int .i64 0, .int .i64 0, .int .i64 0]
  have hg1 : w.grownBy (w.alloc (.cells #[.int .i64 0, .int .i64 0, .int .i64 0, .int .i64 0, .int .i64 0, .int .i64 0, .int .i64 0, .int .i64 0, .int .i64 0, .int .i64 0] 60)) (some g) := World.grownBy_alloc _ _ _
  obtain ⟨q, hq⟩ : ∃ q, q = w.heap.size := ⟨_, rfl⟩
  rw [← hq] at hA
  have hqg : g < q := by omega
  have hqw : w.heap.size ≤ q := by omega
  have hnb := h.nb
  clear h hgi
  rcases (show b % 4 = 0 ∨ b % 4 = 1 ∨ b % 4 = 2 ∨ b % 4 = 3 by omega) with hb4 | hb4 | hb4 | hb4
  · go_enter Tryd.func68, Tryd.ntmps68
    go_upto_region 1 with fail
    rw [← hq]
    obtain ⟨w1, hw1⟩ : ∃ w1, w.alloc (.cells #[.int .i64 0, .int .i64 0, .int .i64 0, .int .i64 0, .int .i64 0, .int .i64 0, .int .i64 0, .int .i64 0, .int .i64 0, .int .i64 0] 60) = w1 := ⟨_, rfl⟩
    rw [hw1] at h1 hA hg1 ⊢
    clear hw1 hq
    have p2 := h1.box.cell 2
    have hgi1 := h1.box.inside
    simp at p2
    have h1x := h1.alloc (.cells #[.int .i64 400, .int .i64 200, .int .i64 90, .int .i64 40] 3)
    have hAx := hA.alloc (.cells #[.int .i64 400, .int .i64 200, .int .i64 90, .int .i64 40] 3)
    have hg1x := hg1.trans (World.grownBy_alloc w1 (.cells #[.int .i64 400, .int .i64 200, .int .i64 90, .int .i64 40] 3) (some g))
    go_upto_region 2 with fail
    generalize w1.alloc (.cells #[.int .i64 400, .int .i64 200, .int .i64 90, .int .i64 40] 3) = w2 at *
    have hb4' := Lib.hid hb4
    clear h1 hA hg1 p2 hb4 hgi1
    obtain ⟨W0, hW0⟩ : ∃ W0 : Int, W0 = 400 := ⟨_, rfl⟩
    have hW1 : 0 ≤ W0 := by omega
    have hW2 : W0 ≤ 400 := by omega
    have hW3 : W0 ≤ 400 ∧ 1 ≤ W0 := by omega
    rw [← hW0]
    clear hW0
    go_wp2_with fail
    refine (next_any _ g sv bs a b k 40 h1x (by omega) (by omega)).mono ?_
    rintro e w3 ⟨⟨r1, rfl, hr1a, hr1b⟩, d3, g3⟩
    have A3 : At w3 q 60 #[.int .i64 0, .int .i64 0, .int .i64 0, .int .i64 0, .int .i64 0, .int .i64 0, .int .i64 0, .int .i64 0, .int .i64 0, .int .i64 0] := At.grownOff hAx g3 (by omega)
    have G3 := hg1x.trans g3
    clear h1x hAx hg1x g3
    go_wp2_with fail
    refine (next_any _ g sv bs a b (k + 1) 60 d3 (by omega) (by omega)).mono ?_
    rintro e w4 ⟨⟨r2, rfl, hr2a, hr2b⟩, d4, g4⟩
    rw [show (k + 1 + 1 : Int) = k + 2 by omega] at d4
    have A4 : At w4 q 60 #[.int .i64 0, .int .i64 0, .int .i64 0, .int .i64 0, .int .i64 0, .int .i64 0, .int .i64 0, .int .i64 0, .int .i64 0, .int .i64 0] := At.grownOff A3 g4 (by omega)
    have G4 := G3.trans g4
    clear d3 A3 G3 g4
    go_wp2_with fail
    refine (dplace_any _ g sv bs a b (k + 2) d4 (by omega)).mono ?_
    rintro e w5 ⟨⟨x1, x2, rfl, hxa, hxb⟩, d5, g5⟩
    rw [show (k + 2 + 2 : Int) = k + 4 by omega] at d5
    have A5 : At w5 q 60 #[.int .i64 0, .int .i64 0, .int .i64 0, .int .i64 0, .int .i64 0, .int .i64 0, .int .i64 0, .int .i64 0, .int .i64 0, .int .i64 0] := At.grownOff A4 g5 (by omega)
    have G5 := G4.trans g5
    clear d4 A4 G4 g5
    go_wp2_with fail
    refine (dplace_any _ g sv bs a b (k + 4) d5 (by omega)).mono ?_
    rintro e w6 ⟨⟨y1, y2, rfl, hya, hyb⟩, d6, g6⟩
    rw [show (k + 4 + 2 : Int) = k + 6 by omega] at d6
    have A6 : At w6 q 60 #[.int .i64 0, .int .i64 0, .int .i64 0, .int .i64 0, .int .i64 0, .int .i64 0, .int .i64 0, .int .i64 0, .int .i64 0, .int .i64 0] := At.grownOff A5 g6 (by omega)
    have G6 := G5.trans g6
    clear d5 A5 G5 g6
    go_wp2_with fail
    refine (next_any _ g sv bs a b (k + 6) 9 d6 (by omega) (by omega)).mono ?_
    rintro e w7 ⟨⟨r3, rfl, hr3a, hr3b⟩, d7, g7⟩
    rw [show (k + 6 + 1 : Int) = k + 7 by omega] at d7
    have A7 : At w7 q 60 #[.int .i64 0, .int .i64 0, .int .i64 0, .int .i64 0, .int .i64 0, .int .i64 0, .int .i64 0, .int .i64 0, .int .i64 0, .int .i64 0] := At.grownOff A6 g7 (by omega)
    have G7 := G6.trans g7
    clear d6 A6 G6 g7
    go_wp2_with fail
    refine (next_any _ g sv bs a b (k + 7) 4 d7 (by omega) (by omega)).mono ?_
    rintro e w8 ⟨⟨r4, rfl, hr4a, hr4b⟩, d8, g8⟩
    rw [show (k + 7 + 1 : Int) = k + 8 by omega] at d8
    have A8 : At w8 q 60 #[.int .i64 0, .int .i64 0, .int .i64 0, .int .i64 0, .int .i64 0, .int .i64 0, .int .i64 0, .int .i64 0, .int .i64 0, .int .i64 0] := At.grownOff A7 g8 (by omega)
    have G8 := G7.trans g8
    clear d7 A7 G7 g8
    have ff := A8.free
    have hlt := A8.inside
    have hEH := Lib.hid ((((((((((d8.far hqg 0 (.int .i64 x1)).far hqg 1 (.int .i64 x2)).far hqg 2 (.int .i64 y1)).far hqg 3 (.int .i64 y2)).far hqg 4 (.int .i64 (F + r1))).far hqg 5 (.int .i64 (F + r1 + W0))).far hqg 6 (.int .i64 (F + r1 + r2))).far hqg 7 (.int .i64 (F + r1 + r2 + W0 + 30))).far hqg 8 (.int .i64 (1 + r3))).far hqg 9 (.int .i64 r4))
    have hGH := Lib.hid (grown_far (grown_far (grown_far (grown_far (grown_far (grown_far (grown_far (grown_far (grown_far (grown_far G8 hqw 0 (.int .i64 x1)) hqw 1 (.int .i64 x2)) hqw 2 (.int .i64 y1)) hqw 3 (.int .i64 y2)) hqw 4 (.int .i64 (F + r1))) hqw 5 (.int .i64 (F + r1 + W0))) hqw 6 (.int .i64 (F + r1 + r2))) hqw 7 (.int .i64 (F + r1 + r2 + W0 + 30))) hqw 8 (.int .i64 (1 + r3))) hqw 9 (.int .i64 r4))
    have hRH := Lib.hid (put10 (y0 := (.int .i64 x1)) (y1 := (.int .i64 x2)) (y2 := (.int .i64 y1)) (y3 := (.int .i64 y2)) (y4 := (.int .i64 (F + r1))) (y5 := (.int .i64 (F + r1 + W0))) (y6 := (.int .i64 (F + r1 + r2))) (y7 := (.int .i64 (F + r1 + r2 + W0 + 30))) (y8 := (.int .i64 (1 + r3))) (y9 := (.int .i64 r4)) A8)
    have c0 := A8.cell 0
    have c1 := A8.cell 1
    have c2 := A8.cell 2
    have c3 := A8.cell 3
    have c4 := A8.cell 4
    have c5 := A8.cell 5
    have c6 := A8.cell 6
    have c7 := A8.cell 7
    have c8 := A8.cell 8
    have c9 := A8.cell 9
    simp at c0 c1 c2 c3 c4 c5 c6 c7 c8 c9
    clear d8 A8 G8
    go_wp2
    refine bodyPost_ret (res_rq rfl rfl (by exact hRH.out)) rfl ?_
    exact ⟨⟨⟨x1, x2, y1, y2, F + r1, F + r1 + W0, F + r1 + r2, F + r1 + r2 + W0 + 30, 1 + r3, r4⟩, rfl, rq_ok hxa hxb hya hyb (by omega) (by omega) (by omega) (by omega) (by omega)⟩, hEH.out, hGH.out⟩
  · go_enter Tryd.func68, Tryd.ntmps68
    go_upto_region 1 with fail
    rw [← hq]
    obtain ⟨w1, hw1⟩ : ∃ w1, w.alloc (.cells #[.int .i64 0, .int .i64 0, .int .i64 0, .int .i64 0, .int .i64 0, .int .i64 0, .int .i64 0, .int .i64 0, .int .i64 0, .int .i64 0] 60) = w1 := ⟨_, rfl⟩
    rw [hw1] at h1 hA hg1 ⊢
    clear hw1 hq
    have p2 := h1.box.cell 2
    have hgi1 := h1.box.inside
    simp at p2
    have h1x := h1.alloc (.cells #[.int .i64 400, .int .i64 200, .int .i64 90, .int .i64 40] 3)
    have hAx := hA.alloc (.cells #[.int .i64 400, .int .i64 200, .int .i64 90, .int .i64 40] 3)
    have hg1x := hg1.trans (World.grownBy_alloc w1 (.cells #[.int .i64 400, .int .i64 200, .int .i64 90, .int .i64 40] 3) (some g))
    go_upto_region 2 with fail
    generalize w1.alloc (.cells #[.int .i64 400, .int .i64 200, .int .i64 90, .int .i64 40] 3) = w2 at *
    have hb4' := Lib.hid hb4
    clear h1 hA hg1 p2 hb4 hgi1
    obtain ⟨W0, hW0⟩ : ∃ W0 : Int, W0 = 200 := ⟨_, rfl⟩
    have hW1 : 0 ≤ W0 := by omega
    have hW2 : W0 ≤ 400 := by omega
    have hW3 : W0 ≤ 200 ∧ 1 ≤ W0 := by omega
    rw [← hW0]
    clear hW0
    go_wp2_with fail
    refine (next_any _ g sv bs a b k 40 h1x (by omega) (by omega)).mono ?_
    rintro e w3 ⟨⟨r1, rfl, hr1a, hr1b⟩, d3, g3⟩
    have A3 : At w3 q 60 #[.int .i64 0, .int .i64 0, .int .i64 0, .int .i64 0, .int .i64 0, .int .i64 0, .int .i64 0, .int .i64 0, .int .i64 0, .int .i64 0] := At.grownOff hAx g3 (by omega)
    have G3 := hg1x.trans g3
    clear h1x hAx hg1x g3
    go_wp2_with fail
    refine (next_any _ g sv bs a b (k + 1) 60 d3 (by omega) (by omega)).mono ?_
    rintro e w4 ⟨⟨r2, rfl, hr2a, hr2b⟩, d4, g4⟩
    rw [show (k + 1 + 1 : Int) = k + 2 by omega] at d4
    have A4 : At w4 q 60 #[.int .i64 0, .int .i64 0, .int .i64 0, .int .i64 0, .int .i64 0, .int .i64 0, .int .i64 0, .int .i64 0, .int .i64 0, .int .i64 0] := At.grownOff A3 g4 (by omega)
    have G4 := G3.trans g4
    clear d3 A3 G3 g4
    go_wp2_with fail
    refine (dplace_any _ g sv bs a b (k + 2) d4 (by omega)).mono ?_
    rintro e w5 ⟨⟨x1, x2, rfl, hxa, hxb⟩, d5, g5⟩
    rw [show (k + 2 + 2 : Int) = k + 4 by omega] at d5
    have A5 : At w5 q 60 #[.int .i64 0, .int .i64 0, .int .i64 0, .int .i64 0, .int .i64 0, .int .i64 0, .int .i64 0, .int .i64 0, .int .i64 0, .int .i64 0] := At.grownOff A4 g5 (by omega)
    have G5 := G4.trans g5
    clear d4 A4 G4 g5
    go_wp2_with fail
    refine (dplace_any _ g sv bs a b (k + 4) d5 (by omega)).mono ?_
    rintro e w6 ⟨⟨y1, y2, rfl, hya, hyb⟩, d6, g6⟩
    rw [show (k + 4 + 2 : Int) = k + 6 by omega] at d6
    have A6 : At w6 q 60 #[.int .i64 0, .int .i64 0, .int .i64 0, .int .i64 0, .int .i64 0, .int .i64 0, .int .i64 0, .int .i64 0, .int .i64 0, .int .i64 0] := At.grownOff A5 g6 (by omega)
    have G6 := G5.trans g6
    clear d5 A5 G5 g6
    go_wp2_with fail
    refine (next_any _ g sv bs a b (k + 6) 9 d6 (by omega) (by omega)).mono ?_
    rintro e w7 ⟨⟨r3, rfl, hr3a, hr3b⟩, d7, g7⟩
    rw [show (k + 6 + 1 : Int) = k + 7 by omega] at d7
    have A7 : At w7 q 60 #[.int .i64 0, .int .i64 0, .int .i64 0, .int .i64 0, .int .i64 0, .int .i64 0, .int .i64 0, .int .i64 0, .int .i64 0, .int .i64 0] := At.grownOff A6 g7 (by omega)
    have G7 := G6.trans g7
    clear d6 A6 G6 g7
    go_wp2_with fail
    refine (next_any _ g sv bs a b (k + 7) 4 d7 (by omega) (by omega)).mono ?_
    rintro e w8 ⟨⟨r4, rfl, hr4a, hr4b⟩, d8, g8⟩
    rw [show (k + 7 + 1 : Int) = k + 8 by omega] at d8
    have A8 : At w8 q 60 #[.int .i64 0, .int .i64 0, .int .i64 0, .int .i64 0, .int .i64 0, .int .i64 0, .int .i64 0, .int .i64 0, .int .i64 0, .int .i64 0] := At.grownOff A7 g8 (by omega)
    have G8 := G7.trans g8
    clear d7 A7 G7 g8
    have ff := A8.free
    have hlt := A8.inside
    have hEH := Lib.hid ((((((((((d8.far hqg 0 (.int .i64 x1)).far hqg 1 (.int .i64 x2)).far hqg 2 (.int .i64 y1)).far hqg 3 (.int .i64 y2)).far hqg 4 (.int .i64 (F + r1))).far hqg 5 (.int .i64 (F + r1 + W0))).far hqg 6 (.int .i64 (F + r1 + r2))).far hqg 7 (.int .i64 (F + r1 + r2 + W0 + 30))).far hqg 8 (.int .i64 (1 + r3))).far hqg 9 (.int .i64 r4))
    have hGH := Lib.hid (grown_far (grown_far (grown_far (grown_far (grown_far (grown_far (grown_far (grown_far (grown_far (grown_far G8 hqw 0 (.int .i64 x1)) hqw 1 (.int .i64 x2)) hqw 2 (.int .i64 y1)) hqw 3 (.int .i64 y2)) hqw 4 (.int .i64 (F + r1))) hqw 5 (.int .i64 (F + r1 + W0))) hqw 6 (.int .i64 (F + r1 + r2))) hqw 7 (.int .i64 (F + r1 + r2 + W0 + 30))) hqw 8 (.int .i64 (1 + r3))) hqw 9 (.int .i64 r4))
    have hRH := Lib.hid (put10 (y0 := (.int .i64 x1)) (y1 := (.int .i64 x2)) (y2 := (.int .i64 y1)) (y3 := (.int .i64 y2)) (y4 := (.int .i64 (F + r1))) (y5 := (.int .i64 (F + r1 + W0))) (y6 := (.int .i64 (F + r1 + r2))) (y7 := (.int .i64 (F + r1 + r2 + W0 + 30))) (y8 := (.int .i64 (1 + r3))) (y9 := (.int .i64 r4)) A8)
    have c0 := A8.cell 0
    have c1 := A8.cell 1
    have c2 := A8.cell 2
    have c3 := A8.cell 3
    have c4 := A8.cell 4
    have c5 := A8.cell 5
    have c6 := A8.cell 6
    have c7 := A8.cell 7
    have c8 := A8.cell 8
    have c9 := A8.cell 9
    simp at c0 c1 c2 c3 c4 c5 c6 c7 c8 c9
    clear d8 A8 G8
    go_wp2
    refine bodyPost_ret (res_rq rfl rfl (by exact hRH.out)) rfl ?_
    exact ⟨⟨⟨x1, x2, y1, y2, F + r1, F + r1 + W0, F + r1 + r2, F + r1 + r2 + W0 + 30, 1 + r3, r4⟩, rfl, rq_ok hxa hxb hya hyb (by omega) (by omega) (by omega) (by omega) (by omega)⟩, hEH.out, hGH.out⟩
  · go_enter Tryd.func68, Tryd.ntmps68
    go_upto_region 1 with fail
    rw [← hq]
    obtain ⟨w1, hw1⟩ : ∃ w1, w.alloc (.cells #[.int .i64 0, .int .i64 0, .int .i64 0, .int .i64 0, .int .i64 0, .int .i64 0, .int .i64 0, .int .i64 0, .int .i64 0, .int .i64 0] 60) = w1 := ⟨_, rfl⟩
    rw [hw1] at h1 hA hg1 ⊢
    clear hw1 hq
    have p2 := h1.box.cell 2
    have hgi1 := h1.box.inside
    simp at p2
    have h1x := h1.alloc (.cells #[.int .i64 400, .int .i64 200, .int .i64 90, .int .i64 40] 3)
    have hAx := hA.alloc (.cells #[.int .i64 400, .int .i64 200, .int .i64 90, .int .i64 40] 3)
    have hg1x := hg1.trans (World.grownBy_alloc w1 (.cells #[.int .i64 400, .int .i64 200, .int .i64 90, .int .i64 40] 3) (some g))
    go_upto_region 2 with fail
    generalize w1.alloc (.cells #[.int .i64 400, .int .i64 200, .int .i64 90, .int .i64 40] 3) = w2 at *
    have hb4' := Lib.hid hb4
    clear h1 hA hg1 p2 hb4 hgi1
    obtain ⟨W0, hW0⟩ : ∃ W0 : Int, W0 = 90 := ⟨_, rfl⟩
    have hW1 : 0 ≤ W0 := by omega
    have hW2 : W0 ≤ 400 := by omega
    have hW3 : W0 ≤ 90 ∧ 1 ≤ W0 := by omega
    rw [← hW0]
    clear hW0
    go_wp2_with fail
    refine (next_any _ g sv bs a b k 40 h1x (by omega) (by omega)).mono ?_
    rintro e w3 ⟨⟨r1, rfl, hr1a, hr1b⟩, d3, g3⟩
    have A3 : At w3 q 60 #[.int .i64 0, .int .i64 0, .int .i64 0, .int .i64 0, .int .i64 0, .int .i64 0, .int .i64 0, .int .i64 0, .int .i64 0, .int .i64 0] := At.grownOff hAx g3 (by omega)
    have G3 := hg1x.trans g3
    clear h1x hAx hg1x g3
    go_wp2_with fail
    refine (next_any _ g sv bs a b (k + 1) 60 d3 (by omega) (by omega)).mono ?_
    rintro e w4 ⟨⟨r2, rfl, hr2a, hr2b⟩, d4, g4⟩
    rw [show (k + 1 + 1 : Int) = k + 2 by omega] at d4
    have A4 : At w4 q 60 #[.int .i64 0, .int .i64 0, .int .i64 0, .int .i64 0, .int .i64 0, .int .i64 0, .int .i64 0, .int .i64 0, .int .i64 0, .int .i64 0] := At.grownOff A3 g4 (by omega)
    have G4 := G3.trans g4
    clear d3 A3 G3 g4
    go_wp2_with fail
    refine (dplace_any _ g sv bs a b (k + 2) d4 (by omega)).mono ?_
    rintro e w5 ⟨⟨x1, x2, rfl, hxa, hxb⟩, d5, g5⟩
    rw [show (k + 2 + 2 : Int) = k + 4 by omega] at d5
    have A5 : At w5 q 60 #[.int .i64 0, .int .i64 0, .int .i64 0, .int .i64 0, .int .i64 0, .int .i64 0, .int .i64 0, .int .i64 0, .int .i64 0, .int .i64 0] := At.grownOff A4 g5 (by omega)
    have G5 := G4.trans g5
    clear d4 A4 G4 g5
    go_wp2_with fail
    refine (dplace_any _ g sv bs a b (k + 4) d5 (by omega)).mono ?_
    rintro e w6 ⟨⟨y1, y2, rfl, hya, hyb⟩, d6, g6⟩
    rw [show (k + 4 + 2 : Int) = k + 6 by omega] at d6
    have A6 : At w6 q 60 #[.int .i64 0, .int .i64 0, .int .i64 0, .int .i64 0, .int .i64 0, .int .i64 0, .int .i64 0, .int .i64 0, .int .i64 0, .int .i64 0] := At.grownOff A5 g6 (by omega)
    have G6 := G5.trans g6
    clear d5 A5 G5 g6
    go_wp2_with fail
    refine (next_any _ g sv bs a b (k + 6) 9 d6 (by omega) (by omega)).mono ?_
    rintro e w7 ⟨⟨r3, rfl, hr3a, hr3b⟩, d7, g7⟩
    rw [show (k + 6 + 1 : Int) = k + 7 by omega] at d7
    have A7 : At w7 q 60 #[.int .i64 0, .int .i64 0, .int .i64 0, .int .i64 0, .int .i64 0, .int .i64 0, .int .i64 0, .int .i64 0, .int .i64 0, .int .i64 0] := At.grownOff A6 g7 (by omega)
    have G7 := G6.trans g7
    clear d6 A6 G6 g7
    go_wp2_with fail
    refine (next_any _ g sv bs a b (k + 7) 4 d7 (by omega) (by omega)).mono ?_
    rintro e w8 ⟨⟨r4, rfl, hr4a, hr4b⟩, d8, g8⟩
    rw [show (k + 7 + 1 : Int) = k + 8 by omega] at d8
    have A8 : At w8 q 60 #[.int .i64 0, .int .i64 0, .int .i64 0, .int .i64 0, .int .i64 0, .int .i64 0, .int .i64 0, .int .i64 0, .int .i64 0, .int .i64 0] := At.grownOff A7 g8 (by omega)
    have G8 := G7.trans g8
    clear d7 A7 G7 g8
    have ff := A8.free
    have hlt := A8.inside
    have hEH := Lib.hid ((((((((((d8.far hqg 0 (.int .i64 x1)).far hqg 1 (.int .i64 x2)).far hqg 2 (.int .i64 y1)).far hqg 3 (.int .i64 y2)).far hqg 4 (.int .i64 (F + r1))).far hqg 5 (.int .i64 (F + r1 + W0))).far hqg 6 (.int .i64 (F + r1 + r2))).far hqg 7 (.int .i64 (F + r1 + r2 + W0 + 30))).far hqg 8 (.int .i64 (1 + r3))).far hqg 9 (.int .i64 r4))
    have hGH := Lib.hid (grown_far (grown_far (grown_far (grown_far (grown_far (grown_far (grown_far (grown_far (grown_far (grown_far G8 hqw 0 (.int .i64 x1)) hqw 1 (.int .i64 x2)) hqw 2 (.int .i64 y1)) hqw 3 (.int .i64 y2)) hqw 4 (.int .i64 (F + r1))) hqw 5 (.int .i64 (F + r1 + W0))) hqw 6 (.int .i64 (F + r1 + r2))) hqw 7 (.int .i64 (F + r1 + r2 + W0 + 30))) hqw 8 (.int .i64 (1 + r3))) hqw 9 (.int .i64 r4))
    have hRH := Lib.hid (put10 (y0 := (.int .i64 x1)) (y1 := (.int .i64 x2)) (y2 := (.int .i64 y1)) (y3 := (.int .i64 y2)) (y4 := (.int .i64 (F + r1))) (y5 := (.int .i64 (F + r1 + W0))) (y6 := (.int .i64 (F + r1 + r2))) (y7 := (.int .i64 (F + r1 + r2 + W0 + 30))) (y8 := (.int .i64 (1 + r3))) (y9 := (.int .i64 r4)) A8)
    have c0 := A8.cell 0
    have c1 := A8.cell 1
    have c2 := A8.cell 2
    have c3 := A8.cell 3
    have c4 := A8.cell 4
    have c5 := A8.cell 5
    have c6 := A8.cell 6
    have c7 := A8.cell 7
    have c8 := A8.cell 8
    have c9 := A8.cell 9
    simp at c0 c1 c2 c3 c4 c5 c6 c7 c8 c9
    clear d8 A8 G8
    go_wp2
    refine bodyPost_ret (res_rq rfl rfl (by exact hRH.out)) rfl ?_
    exact ⟨⟨⟨x1, x2, y1, y2, F + r1, F + r1 + W0, F + r1 + r2, F + r1 + r2 + W0 + 30, 1 + r3, r4⟩, rfl, rq_ok hxa hxb hya hyb (by omega) (by omega) (by omega) (by omega) (by omega)⟩, hEH.out, hGH.out⟩
  · go_enter Tryd.func68, Tryd.ntmps68
    go_upto_region 1 with fail
    rw [← hq]
    obtain ⟨w1, hw1⟩ : ∃ w1, w.alloc (.cells #[.int .i64 0, .int .i64 0, .int .i64 0, .int .i64 0, .int .i64 0, .int .i64 0, .int .i64 0, .int .i64 0, .int .i64 0, .int .i64 0] 60) = w1 := ⟨_, rfl⟩
    rw [hw1] at h1 hA hg1 ⊢
    clear hw1 hq
    have p2 := h1.box.cell 2
    have hgi1 := h1.box.inside
    simp at p2
    have h1x := h1.alloc (.cells #[.int .i64 400, .int .i64 200, .int .i64 90, .int .i64 40] 3)
    have hAx := hA.alloc (.cells #[.int .i64 400, .int .i64 200, .int .i64 90, .int .i64 40] 3)
    have hg1x := hg1.trans (World.grownBy_alloc w1 (.cells #[.int .i64 400, .int .i64 200, .int .i64 90, .int .i64 40] 3) (some g))
    go_upto_region 2 with fail
    generalize w1.alloc (.cells #[.int .i64 400, .int .i64 200, .int .i64 90, .int .i64 40] 3) = w2 at *
    have hb4' := Lib.hid hb4
    clear h1 hA hg1 p2 hb4 hgi1
    obtain ⟨W0, hW0⟩ : ∃ W0 : Int, W0 = 40 := ⟨_, rfl⟩
    have hW1 : 0 ≤ W0 := by omega
    have hW2 : W0 ≤ 400 := by omega
    have hW3 : W0 ≤ 40 ∧ 1 ≤ W0 := by omega
    rw [← hW0]
    clear hW0
    go_wp2_with fail
    refine (next_any _ g sv bs a b k W0 h1x (by omega) (by omega)).mono ?_
    rintro e w3 ⟨⟨r1, rfl, hr1a, hr1b⟩, d3, g3⟩
    have A3 : At w3 q 60 #[.int .i64 0, .int .i64 0, .int .i64 0, .int .i64 0, .int .i64 0, .int .i64 0, .int .i64 0, .int .i64 0, .int .i64 0, .int .i64 0] := At.grownOff hAx g3 (by omega)
    have G3 := hg1x.trans g3
    clear h1x hAx hg1x g3
    go_wp2_with fail
    refine (next_any _ g sv bs a b (k + 1) 60 d3 (by omega) (by omega)).mono ?_
    rintro e w4 ⟨⟨r2, rfl, hr2a, hr2b⟩, d4, g4⟩
    rw [show (k + 1 + 1 : Int) = k + 2 by omega] at d4
    have A4 : At w4 q 60 #[.int .i64 0, .int .i64 0, .int .i64 0, .int .i64 0, .int .i64 0, .int .i64 0, .int .i64 0, .int .i64 0, .int .i64 0, .int .i64 0] := At.grownOff A3 g4 (by omega)
    have G4 := G3.trans g4
    clear d3 A3 G3 g4
    go_wp2_with fail
    refine (dplace_any _ g sv bs a b (k + 2) d4 (by omega)).mono ?_
    rintro e w5 ⟨⟨x1, x2, rfl, hxa, hxb⟩, d5, g5⟩
    rw [show (k + 2 + 2 : Int) = k + 4 by omega] at d5
    have A5 : At w5 q 60 #[.int .i64 0, .int .i64 0, .int .i64 0, .int .i64 0, .int .i64 0, .int .i64 0, .int .i64 0, .int .i64 0, .int .i64 0, .int .i64 0] := At.grownOff A4 g5 (by omega)
    have G5 := G4.trans g5
    clear d4 A4 G4 g5
    go_wp2_with fail
    refine (dplace_any _ g sv bs a b (k + 4) d5 (by omega)).mono ?_
    rintro e w6 ⟨⟨y1, y2, rfl, hya, hyb⟩, d6, g6⟩
    rw [show (k + 4 + 2 : Int) = k + 6 by omega] at d6
    have A6 : At w6 q 60 #[.int .i64 0, .int .i64 0, .int .i64 0, .int .i64 0, .int .i64 0, .int .i64 0, .int .i64 0, .int .i64 0, .int .i64 0, .int .i64 0] := At.grownOff A5 g6 (by omega)
    have G6 := G5.trans g6
    clear d5 A5 G5 g6
    go_wp2_with fail
    refine (next_any _ g sv bs a b (k + 6) 9 d6 (by omega) (by omega)).mono ?_
    rintro e w7 ⟨⟨r3, rfl, hr3a, hr3b⟩, d7, g7⟩
    rw [show (k + 6 + 1 : Int) = k + 7 by omega] at d7
    have A7 : At w7 q 60 #[.int .i64 0, .int .i64 0, .int .i64 0, .int .i64 0, .int .i64 0, .int .i64 0, .int .i64 0, .int .i64 0, .int .i64 0, .int .i64 0] := At.grownOff A6 g7 (by omega)
    have G7 := G6.trans g7
    clear d6 A6 G6 g7
    go_wp2_with fail
    refine (next_any _ g sv bs a b (k + 7) 4 d7 (by omega) (by omega)).mono ?_
    rintro e w8 ⟨⟨r4, rfl, hr4a, hr4b⟩, d8, g8⟩
    rw [show (k + 7 + 1 : Int) = k + 8 by omega] at d8
    have A8 : At w8 q 60 #[.int .i64 0, .int .i64 0, .int .i64 0, .int .i64 0, .int .i64 0, .int .i64 0, .int .i64 0, .int .i64 0, .int .i64 0, .int .i64 0] := At.grownOff A7 g8 (by omega)
    have G8 := G7.trans g8
    clear d7 A7 G7 g8
    have ff := A8.free
    have hlt := A8.inside
    have hEH := Lib.hid ((((((((((d8.far hqg 0 (.int .i64 x1)).far hqg 1 (.int .i64 x2)).far hqg 2 (.int .i64 y1)).far hqg 3 (.int .i64 y2)).far hqg 4 (.int .i64 (F + r1))).far hqg 5 (.int .i64 (F + r1 + W0))).far hqg 6 (.int .i64 (F + r1 + r2))).far hqg 7 (.int .i64 (F + r1 + r2 + W0 + 30))).far hqg 8 (.int .i64 (1 + r3))).far hqg 9 (.int .i64 r4))
    have hGH := Lib.hid (grown_far (grown_far (grown_far (grown_far (grown_far (grown_far (grown_far (grown_far (grown_far (grown_far G8 hqw 0 (.int .i64 x1)) hqw 1 (.int .i64 x2)) hqw 2 (.int .i64 y1)) hqw 3 (.int .i64 y2)) hqw 4 (.int .i64 (F + r1))) hqw 5 (.int .i64 (F + r1 + W0))) hqw 6 (.int .i64 (F + r1 + r2))) hqw 7 (.int .i64 (F + r1 + r2 + W0 + 30))) hqw 8 (.int .i64 (1 + r3))) hqw 9 (.int .i64 r4))
    have hRH := Lib.hid (put10 (y0 := (.int .i64 x1)) (y1 := (.int .i64 x2)) (y2 := (.int .i64 y1)) (y3 := (.int .i64 y2)) (y4 := (.int .i64 (F + r1))) (y5 := (.int .i64 (F + r1 + W0))) (y6 := (.int .i64 (F + r1 + r2))) (y7 := (.int .i64 (F + r1 + r2 + W0 + 30))) (y8 := (.int .i64 (1 + r3))) (y9 := (.int .i64 r4)) A8)
    have c0 := A8.cell 0
    have c1 := A8.cell 1
    have c2 := A8.cell 2
    have c3 := A8.cell 3
    have c4 := A8.cell 4
    have c5 := A8.cell 5
    have c6 := A8.cell 6
    have c7 := A8.cell 7
    have c8 := A8.cell 8
    have c9 := A8.cell 9
    simp at c0 c1 c2 c3 c4 c5 c6 c7 c8 c9
    clear d8 A8 G8
    go_wp2
    refine bodyPost_ret (res_rq rfl rfl (by exact hRH.out)) rfl ?_
    exact ⟨⟨⟨x1, x2, y1, y2, F + r1, F + r1 + W0, F + r1 + r2, F + r1 + r2 + W0 + 30, 1 + r3, r4⟩, rfl, rq_ok hxa hxb hya hyb (by omega) (by omega) (by omega) (by omega) (by omega)⟩, hEH.out, hGH.out⟩

set_option maxRecDepth 100000 in
set_option maxHeartbeats 4000000 in
theorem dvehicle_any (w : World) (g : Nat) (sv : Value) (bs : List Int) (a b k : Int) (h : DraftAt w g sv bs a b k) (hk : 0 ≤ k ∧ k < 800000) :
    Calls Tryd.prog 42 #[.pointer (some ⟨g, 0, none⟩)] w fun e w' =>
      (∃ v : Vh, e = .returned (.agg #[.int .i64 v.hx, .int .i64 v.hy, .int .i64 v.cp, .int .i64 v.st, .int .i64 v.en]) ∧ v.dr) ∧ DraftAt w' g sv bs a b (k + 5) ∧ w.grownBy w' (some g) := by
  have hgi := h.box.inside
  have h1 := h.alloc (.cells #[.int .i64 0, .int .i64 0, .int .i64 0, .int .i64 0, .int .i64 0] 28)
  have hA := At.new w 28 #[.int .i64 0, .int .i64 0, .int .i64 0, .int .i64 0, .int .i64 0]
  have hg1 : w.grownBy (w.alloc (.cells #[.int .i64 0, .int .i64 0, .int .i64 0, .int .i64 0, .int .i64 0] 28)) (some g) := World.grownBy_alloc _ _ _
  obtain ⟨q, hq⟩ : ∃ q, q = w.heap.size := ⟨_, rfl⟩
  rw [← hq] at hA
  have hqg : g < q := by omega
  have hqw : w.heap.size ≤ q := by omega
  clear h hgi
  go_enter Tryd.func42, Tryd.ntmps42
  go_upto_region 1 with fail
  rw [← hq]
  obtain ⟨w1, hw1⟩ : ∃ w1, w.alloc (.cells #[.int .i64 0, .int .i64 0, .int .i64 0, .int .i64 0, .int .i64 0] 28) = w1 := ⟨_, rfl⟩
  rw [hw1] at h1 hA hg1 ⊢
  clear hw1 hq
  go_wp2_with fail
  refine (dplace_any _ g sv bs a b k h1 (by omega)).mono ?_
  rintro e w2 ⟨⟨x1, x2, rfl, hxa, hxb⟩, d2, g2⟩
  have A2 : At w2 q 28 #[.int .i64 0, .int .i64 0, .int .i64 0, .int .i64 0, .int .i64 0] := At.grownOff hA g2 (by omega)
  have G2 := hg1.trans g2
  clear h1 hA hg1 g2
  go_wp2_with fail
  refine (next_any _ g sv bs a b (k + 2) 20 d2 (by omega) (by omega)).mono ?_
  rintro e w3 ⟨⟨r1, rfl, hr1a, hr1b⟩, d3, g3⟩
  rw [show (k + 2 + 1 : Int) = k + 3 by omega] at d3
  have A3 : At w3 q 28 #[.int .i64 0, .int .i64 0, .int .i64 0, .int .i64 0, .int .i64 0] := At.grownOff A2 g3 (by omega)
  have G3 := G2.trans g3
  clear d2 A2 G2 g3
  go_wp2_with fail
  refine (next_any _ g sv bs a b (k + 3) 20 d3 (by omega) (by omega)).mono ?_
  rintro e w4 ⟨⟨r2, rfl, hr2a, hr2b⟩, d4, g4⟩
  rw [show (k + 3 + 1 : Int) = k + 4 by omega] at d4
  have A4 : At w4 q 28 #[.int .i64 0, .int .i64 0, .int .i64 0, .int .i64 0, .int .i64 0] := At.grownOff A3 g4 (by omega)
  have G4 := G3.trans g4
  clear d3 A3 G3 g4
  go_wp2_with fail
  refine (next_any _ g sv bs a b (k + 4) 100 d4 (by omega) (by omega)).mono ?_
  rintro e w5 ⟨⟨r3, rfl, hr3a, hr3b⟩, d5, g5⟩
  rw [show (k + 4 + 1 : Int) = k + 5 by omega] at d5
  have A5 : At w5 q 28 #[.int .i64 0, .int .i64 0, .int .i64 0, .int .i64 0, .int .i64 0] := At.grownOff A4 g5 (by omega)
  have G5 := G4.trans g5
  clear d4 A4 G4 g5
  have ff := A5.free
  have hlt := A5.inside
  have hEH := Lib.hid (((((d5.far hqg 0 (.int .i64 x1)).far hqg 1 (.int .i64 x2)).far hqg 2 (.int .i64 (8 + r1))).far hqg 3 (.int .i64 r2)).far hqg 4 (.int .i64 (300 + 8 * r3)))
  have hGH := Lib.hid (grown_far (grown_far (grown_far (grown_far (grown_far G5 hqw 0 (.int .i64 x1)) hqw 1 (.int .i64 x2)) hqw 2 (.int .i64 (8 + r1))) hqw 3 (.int .i64 r2)) hqw 4 (.int .i64 (300 + 8 * r3)))
  have hRH := Lib.hid (put5 (y0 := .int .i64 x1) (y1 := .int .i64 x2) (y2 := .int .i64 (8 + r1)) (y3 := .int .i64 r2) (y4 := .int .i64 (300 + 8 * r3)) A5)
  have c0 := A5.cell 0
  have c1 := A5.cell 1
  have c2 := A5.cell 2
  have c3 := A5.cell 3
  have c4 := A5.cell 4
  simp at c0 c1 c2 c3 c4
  clear d5 A5 G5
  go_wp2
  refine bodyPost_ret (res_vh rfl rfl (by exact hRH.out)) rfl ?_
  exact ⟨⟨⟨x1, x2, 8 + r1, r2, 300 + 8 * r3⟩, rfl, vh_ok hxa hxb (by omega) (by omega) (by omega)⟩, hEH.out, hGH.out⟩

end Go.Proofs.YthjdacbgcpldjaaDoor.When

/-
  Contracts of a draft's Requests, Route and Parts.
-/
namespace Go.Proofs.YthjdacbgcpldjaaDoor.When
open Go.RowKit Go.Proofs.YthjdacbgcpldjaaDoor.Mem Go.Proofs.YthjdacbgcpldjaaDoor.Route
set_option linter.unusedVariables false

theorem own_grown {w5 W V : World} {r row : Option Nat} (h : w5.grownBy W r) (hg : W.grownBy V row) (hr : ∀ b, row = some b → w5.heap.size ≤ b) : w5.grownBy V r :=
  ⟨hg.os.trans h.os, hg.tape.trans h.tape, hg.output.trans h.output, Nat.le_trans h.size hg.size, fun k hk hn => (hg.block k (by have := h.size; omega) (fun e => by have := hr k e.symm; omega)).trans (h.block k hk hn)⟩
theorem grown_below2 {w v u : World} {g : Nat} (h : w.grownBy v (some g)) (hb : Below v.heap.size v u) : w.grownBy u (some g) :=
  ⟨hb.os.trans h.os, hb.tape.trans h.tape, hb.output.trans h.output, Nat.le_trans h.size hb.size, fun k hk hn => (hb.block k (Nat.lt_of_lt_of_le hk h.size)).trans (h.block k hk hn)⟩
theorem DraftAt.keep {W W' : World} {g B : Nat} {sv : Value} {bs : List Int} {a b k : Int} (h : DraftAt W g sv bs a b k) (hb : Below B W W') (hg : g < B) : DraftAt W' g sv bs a b k :=
  ⟨h.box.keep hb hg, h.row.keep hb (Nat.le_of_lt hg), h.byte, h.na, h.nb⟩
def flatQ (t : List Rq) : List Value := (t.map rqV).flatten
theorem flatQ_snoc (t : List Rq) (q : Rq) : flatQ (t ++ [q]) = flatQ t ++ [.int .i64 q.fx, .int .i64 q.fy, .int .i64 q.tx, .int .i64 q.ty, .int .i64 q.pe, .int .i64 q.pl, .int .i64 q.de, .int .i64 q.dl, .int .i64 q.ld, .int .i64 q.sv] := by simp [flatQ, rqV]
theorem Rqs.of_owns {B : Nat} {W : World} {base n : Nat} {e : TypeId} {v : Value} {l : List Rq} (h : W.ownsRow base e 10 v n (flatQ l)) (hn : n = l.length) (hB : W.heap.size ≤ B) : Rqs B W v l :=
  RowB.of_owns h (by simpa using hn) (fun r hr => by obtain ⟨s, _, rfl⟩ := List.mem_map.1 hr; rfl) hB
theorem info_request : (Tryd.prog.info? 60).map (fun i => (i.zero, i.size, i.bytes)) = some (some (.agg #[.int .i64 0, .int .i64 0, .int .i64 0, .int .i64 0, .int .i64 0, .int .i64 0, .int .i64 0, .int .i64 0, .int .i64 0, .int .i64 0]), 10, 80) := by kernel_rfl

set_option maxRecDepth 100000 in
set_option maxHeartbeats 1000000 in
theorem drequests_any (w : World) (g : Nat) (sv : Value) (bs : List Int) (a b k : Int) (n : Nat) (h : DraftAt w g sv bs a b k) (hk : 0 ≤ k ∧ k < 700000) (hn : n ≤ 6) :
    Calls Tryd.prog 41 #[.pointer (some ⟨g, 0, none⟩), .int .i64 n] w fun e w' =>
      (∃ u t, e = .returned u ∧ w'.ownsRow w.heap.size 60 10 u t.length (flatQ t) ∧ t.length = n ∧ ∀ q ∈ t, q.dr) ∧ DraftAt w' g sv bs a b (k + 8 * n) ∧ w.grownBy w' (some g) := by
  obtain ⟨i0, hi, hz0, hz1, hz2⟩ := info_parts info_request
  have hgi := h.box.inside
  have h' := Lib.hid h
  clear h
  go_enter Tryd.func41, Tryd.ntmps41
  go_wp2
  go_loopw [5, 6] (fun u i wr => ∃ (j : Nat) (t : List Rq) (x : Option Addr) (cap : Nat), i = .int .i64 j ∧ j ≤ n ∧ u = .slice x j cap ∧ t.length = j ∧ wr.ownsRow w.heap.size 60 10 (.slice x j cap) j (flatQ t) ∧ (∀ q ∈ t, q.dr) ∧ DraftAt wr g sv bs a b (k + 8 * j) ∧ w.grownBy wr (some g)) (fun _ i _ => n - (intOf i).toNat)
  case atStart => exact ⟨0, [], none, 0, rfl, Nat.zero_le _, rfl, rfl, World.ownsRow_nil _ _ _ _, fun q hq => (by cases hq), by simpa using h'.out, grown_refl _ _⟩
  case round =>
    obtain ⟨j, t, x, cap, rfl, hj, rfl, htl, hown, hch, hD, hG⟩ := hrel
    clear h'
    have htl' := Lib.hid htl
    have hch' := Lib.hid hch
    clear htl hch
    by_cases hlt : j < n
    · have hcall := drequest_any wr g sv bs a b (k + 8 * j) (25 * j) hD (by omega) (by omega)
      have hown' := Lib.hid hown
      have hG' := Lib.hid hG
      have hws := hG.size
      clear hown hG hD
      go_wp2_with fail
      refine hcall.mono ?_
      clear hcall
      rintro e w3 ⟨⟨q, rfl, hq⟩, hD3, hg3⟩
      rw [show k + 8 * (j : Int) + 8 = k + 8 * ((j + 1 : Nat) : Int) by omega] at hD3
      have hown3 := Lib.hid (owns_old hown'.out hg3 (fun r e => .inl (by cases e; omega)))
      have hro := Lib.hid (owns_row hown'.out)
      have hG3 := Lib.hid (hG'.out.trans hg3)
      have hD3' := Lib.hid hD3
      have hq' := Lib.hid hq
      have hs3 := hg3.size
      clear hD3 hg3 hq
      go_wp2_with (at_builtin; refine wpList_append_own _ rfl _ _ 30 rfl w.heap.size 60 i0 (.agg #[.int .i64 0, .int .i64 0, .int .i64 0, .int .i64 0, .int .i64 0, .int .i64 0, .int .i64 0, .int .i64 0, .int .i64 0, .int .i64 0]) 10 80 Tryd.underlying30 hi hz0 hz1 hz2 rfl (by decide) _ _ _ rfl (hown3.out.alloc _) ⟨w3.heap.size, 0, none⟩ 1 1 [.int .i64 q.fx, .int .i64 q.fy, .int .i64 q.tx, .int .i64 q.ty, .int .i64 q.pe, .int .i64 q.pl, .int .i64 q.de, .int .i64 q.dl, .int .i64 q.ld, .int .i64 q.sv] rfl rfl (World.news_of_block (cs := #[.int .i64 q.fx, .int .i64 q.fy, .int .i64 q.tx, .int .i64 q.ty, .int .i64 q.pe, .int .i64 q.pl, .int .i64 q.de, .int .i64 q.dl, .int .i64 q.ld, .int .i64 q.sv]) (t := 60) (fr := (0, 0)) (heap_alloc_new w3 _)) (by simp [Value.oneCell']) (by unfold maxLen; omega) (by omega) (by simp; omega) ?_; intro v7 w7 hown7 hgrow7 hnil7; obtain ⟨x7, c7, rfl, _, _⟩ := owns_slice hown7)
      have hG7 := own_grown (hG3.out.trans (World.grownBy_alloc _ _ _)) hgrow7 (fun r e => hro.out r e)
      have hD7 := (hD3'.out.alloc _).under hgrow7 (fun r e => by have := hro.out r e; omega)
      go_roundw
      case rel =>
        refine ⟨j + 1, t ++ [q], x7, c7, by go_num, hlt, rfl, by simp [htl'.out], by rw [flatQ_snoc]; exact hown7, fun p hp => ?_, hD7, hG7⟩
        rcases List.mem_append.1 hp with hp | hp
        · exact hch'.out p hp
        · obtain rfl := List.mem_singleton.1 hp
          exact hq'.out
      case measure => simp [intOf]; omega
    · obtain rfl : j = n := by omega
      have hown' := Lib.hid hown
      have hD' := Lib.hid hD
      have hG' := Lib.hid hG
      clear hown hD hG
      go_wp2
      go_ret
      exact ⟨⟨_, t, rfl, by rw [htl'.out]; exact hown'.out, htl'.out, hch'.out⟩, hD'.out, hG'.out⟩

/-! ### Route -/

def Small (l : List (Int × Int)) : Prop := ∀ s ∈ l, (0 ≤ s.1 ∧ s.1 ≤ 6) ∧ 0 ≤ s.2 ∧ s.2 ≤ 1
theorem Small.nums {l : List (Int × Int)} (h : Small l) : Nums l := fun s hs => by have := h s hs; exact ⟨⟨by omega, by omega⟩, by omega, by omega⟩
theorem Small.put {l : List (Int × Int)} (h : Small l) (k : Nat) {s : Int × Int} (hs : (0 ≤ s.1 ∧ s.1 ≤ 6) ∧ 0 ≤ s.2 ∧ s.2 ≤ 1) : Small (putL l k s) := by
  intro p hp
  unfold putL at hp
  rcases List.mem_append.1 hp with hp | hp
  · exact h p (List.mem_of_mem_take hp)
  · rcases List.mem_cons.1 hp with rfl | hp
    · exact hs
    · exact h p (List.mem_of_mem_drop hp)
/-- A drawn route of the first j requests; the same, with the Pick of the next one. -/
def Fine (l : List (Int × Int)) (j : Nat) : Prop := Small l ∧ isR l = true ∧ (∀ s ∈ l, s.1 < j) ∧ l.length = 2 * j
theorem Fine.nil : Fine [] 0 := ⟨fun s h => (by cases h), rfl, fun s h => (by cases h), rfl⟩
def Half (l8 : List (Int × Int)) (j K : Nat) : Prop := ∃ l, Fine l j ∧ K ≤ l.length ∧ putL l K ((j : Int), 0) = l8
theorem Half.mk_ {l : List (Int × Int)} {j K : Nat} (h : Fine l j) (hK : K ≤ l.length) : Half (putL l K ((j : Int), 0)) j K := ⟨l, h, hK, rfl⟩
theorem put_put2 {l : List (Int × Int)} {i j : Nat} (hij : i ≤ j) (hj : j ≤ l.length) (r : Int) : putL (putL l i (r, 0)) (j + 1) (r, 1) = withL l r i j := by
  obtain ⟨a, b, c, rfl, rfl, h2⟩ := parts hij hj
  subst h2
  rw [withL_parts]
  have e : putL (a ++ b ++ c) a.length (r, 0) = a ++ (r, 0) :: (b ++ c) := by
    unfold putL
    rw [List.append_assoc, List.take_left, List.drop_left]
  rw [e]
  unfold putL
  have e2 : a ++ (r, 0) :: (b ++ c) = (a ++ (r, 0) :: b) ++ c := by simp
  have e3 : a.length + b.length + 1 = (a ++ (r, 0) :: b).length := by simp; omega
  rw [e2, e3, List.take_left, List.drop_left]
  simp
theorem Half.fine {l8 : List (Int × Int)} {j K J : Nat} (h : Half l8 j K) (hj : j ≤ 5) (hK : K + 1 ≤ J) (hJ : J ≤ l8.length) : Fine (putL l8 J ((j : Int), 1)) (j + 1) := by
  obtain ⟨l, ⟨h1, h2, h3, h4⟩, hKl, rfl⟩ := h
  have hJ2 : J ≤ l.length + 1 := by rw [putL_length] at hJ; exact hJ
  obtain ⟨i, rfl⟩ : ∃ i, J = i + 1 := ⟨J - 1, by omega⟩
  have hs := (h1.put K (s := ((j : Int), 0)) (by simp only; omega)).put (i + 1) (s := ((j : Int), 1)) (by simp only; omega)
  have e := put_put2 (l := l) (i := K) (j := i) (by omega) (by omega) (j : Int)
  rw [e] at hs ⊢
  have hno : noR (j : Int) l = true := noR_iff.2 fun s hs => by have := h3 s hs; omega
  have hm : mayW l (j : Int) (K : Int) (i : Int) = true := mayW_iff.2 ⟨by omega, by omega, by omega, by omega, by omega, hno⟩
  refine ⟨hs, by simpa using isR_with hm h2, fun s hsm => ?_, by rw [withL_length (by omega) (by omega)]; omega⟩
  rw [← e] at hsm
  unfold putL at hsm
  rcases List.mem_append.1 hsm with hsm | hsm
  · have h5 := List.mem_of_mem_take hsm
    rcases List.mem_append.1 h5 with h5 | h5
    · have := h3 s (List.mem_of_mem_take h5); omega
    · rcases List.mem_cons.1 h5 with rfl | h5
      · simp only; omega
      · have := h3 s (List.mem_of_mem_drop h5); omega
  · rcases List.mem_cons.1 hsm with rfl | hsm
    · simp only; omega
    · have h5 := List.mem_of_mem_drop hsm
      rcases List.mem_append.1 h5 with h5 | h5
      · have := h3 s (List.mem_of_mem_take h5); omega
      · rcases List.mem_cons.1 h5 with rfl | h5
        · simp only; omega
        · have := h3 s (List.mem_of_mem_drop h5); omega
theorem flat_put (l : List (Int × Int)) (k : Nat) (s1 s2 : Int) : flatS (putL l k (s1, s2)) = [] ++ flatS (l.take k) ++ [.int .i64 s1, .int .i64 s2] ++ flatS (l.drop k) := by
  unfold putL
  rw [flatS_append, show (s1, s2) :: l.drop k = [(s1, s2)] ++ l.drop k from rfl, flatS_append, List.nil_append, List.append_assoc]
  rfl
theorem owns_empty {W : World} {base n : Nat} {e : TypeId} (hn : n = W.heap.size) (hb : base ≤ n) : (W.alloc (.cells #[] e)).ownsRow base e 2 (.slice (some ⟨n, 0, none⟩) 0 0) 0 [] := by
  subst hn
  exact ⟨rfl, .inr ⟨W.heap.size, 0, #[], rfl, hb, heap_alloc_new W _, Nat.le_refl _, Nat.zero_le _, rfl, rfl⟩⟩
theorem own_lt {W : World} {base size k : Nat} {e : TypeId} {v : Value} {xs : List Value} (h : W.ownsRow base e size v k xs) : ∀ r, v.ownBlock = some r → r < W.heap.size := by
  obtain ⟨hl, ⟨rfl, h0⟩ | ⟨g, cap, cur, rfl, hb, hg, hc1, hc2, hs, ht⟩⟩ := h
  · intro r e; cases e
  · intro r e
    simp only [Value.ownBlock, Option.some.injEq] at e
    have := (Array.getElem?_eq_some_iff.1 hg).1
    omega
theorem takeNews {B : Nat} {W : World} {x : Option Addr} {N cap k : Nat} {l : List (Int × Int)} (h : Row B W (.slice x N cap) l) (hl : l.length = N) (hk : k ≤ N) : ∀ ad, x = some ad → ∀ j u, (flatS (l.take k))[j]? = some u → W.cell? (ad.add j) = some u := by
  intro ad e
  subst e
  exact (h.cutTo hl hk).flat
theorem dropNews {B : Nat} {W : World} {x : Option Addr} {N cap k : Nat} {l : List (Int × Int)} (h : Row B W (.slice x N cap) l) (hl : l.length = N) (hk : k ≤ N) : ∀ ad, (if cap = k then x else x.map (·.add (k * 2))) = some ad → ∀ j u, (flatS (l.drop k))[j]? = some u → W.cell? (ad.add j) = some u := by
  intro ad e
  have := h.dropFrom hl hk
  rw [e] at this
  exact this.flat
/-- A row of the call's own: nothing, or a block from its first cell on. -/
theorem owns_parts {W : World} {base size n cap : Nat} {e : TypeId} {x : Option Addr} {xs : List Value} (h : W.ownsRow base e size (.slice x n cap) n xs) : (x = none ∧ n = 0 ∧ cap = 0) ∨ ∃ q : Nat, x = some ⟨q, 0, none⟩ ∧ n ≤ cap := by
  obtain ⟨hl, ⟨e1, h0⟩ | ⟨q, cap', cur, e1, hb, hg, hc1, hc2, hs, ht⟩⟩ := h
  · simp only [Value.slice.injEq] at e1
    exact .inl ⟨e1.1, h0, e1.2.2⟩
  · simp only [Value.slice.injEq] at e1
    obtain ⟨rfl, _, rfl⟩ := e1
    exact .inr ⟨q, rfl, hc1⟩


set_option maxRecDepth 100000 in
set_option maxHeartbeats 4000000 in
theorem droute_any (w : World) (g : Nat) (sv : Value) (bs : List Int) (a b k : Int) (n : Nat) (h : DraftAt w g sv bs a b k) (hk : 0 ≤ k ∧ k < 700000) (hn : n ≤ 6) :
    Calls Tryd.prog 43 #[.pointer (some ⟨g, 0, none⟩), .int .i64 0, .int .i64 n] w fun e w' =>
      (∃ u l, e = .returned u ∧ w'.ownsRow w.heap.size 66 2 u l.length (flatS l) ∧ l.length = 2 * n ∧ Fine l n) ∧ w.grownBy w' (some g) := by
  obtain ⟨i0, hi, hz0, hz1, hz2⟩ := info_parts info_stop
  have hgi := h.box.inside
  have h' := Lib.hid h
  clear h
  go_enter Tryd.func43, Tryd.ntmps43
  go_wp2
  go_loopw [7, 8] (fun u i wr => ∃ (j : Nat) (l : List (Int × Int)) (x : Option Addr) (cap : Nat), i = .int .i64 j ∧ j ≤ n ∧ u = .slice x (2 * j) cap ∧ Hid (l.length = 2 * j) ∧ wr.ownsRow w.heap.size 66 2 (.slice x (2 * j) cap) (2 * j) (flatS l) ∧ Hid (Fine l j) ∧ DraftAt wr g sv bs a b (k + 2 * j) ∧ w.grownBy wr (some g)) (fun _ i _ => n - (intOf i).toNat)
  case atStart => exact ⟨0, [], none, 0, rfl, Nat.zero_le _, rfl, Lib.hid rfl, World.ownsRow_nil _ _ _ _, Lib.hid Fine.nil, by simpa using h'.out, grown_refl _ _⟩
  case round =>
    obtain ⟨j, l, x, cap, rfl, hj, rfl, hll, hown, hsm, hD, hG⟩ := hrel
    clear h'
    by_cases hlt : j < n
    · obtain ⟨L, hL, hL12⟩ : ∃ L, 2 * j = L ∧ L ≤ 10 := ⟨_, rfl, by omega⟩
      have hnum := hL
      rw [hL] at hown hll ⊢
      have hjL : Hid (2 * j = L) := Lib.hid hL
      clear hL
      have hcall := next_any wr g sv bs a b (k + 2 * j) 3 hD (by omega) (by omega)
      have hown' := Lib.hid hown
      have hG' := Lib.hid hG
      have hws := hG.size
      have hparts := owns_parts hown
      clear hown hG hD hnum
      go_wp2_with fail
      refine hcall.mono ?_
      clear hcall
      rintro e w3 ⟨⟨r, rfl, hr0, hr1⟩, hD3, hg3⟩
      have hown3 := Lib.hid (owns_old hown'.out hg3 (fun r e => .inl (by cases e; omega)))
      have hG3 := Lib.hid (hG'.out.trans hg3)
      have hD3' := Lib.hid hD3
      have hs3 := hg3.size
      obtain ⟨K, hI, hKL⟩ : ∃ K : Nat, (L : Int) - min (L : Int) r = K ∧ K ≤ L := ⟨((L : Int) - min (L : Int) r).toNat, by omega, by omega⟩
      obtain ⟨I, hI1⟩ : ∃ I : Int, min (L : Int) r = I := ⟨_, rfl⟩
      rw [hI1] at hI
      have hI0 : 0 ≤ I := by omega
      have hI2 : I ≤ L := by omega
      clear hD3 hg3 hown'
      have hR3 := Lib.hid (Row.of_owns (B := w3.heap.size) hown3.out hll.out.symm (Nat.le_refl _))
      have hlt3 : (flatS (l.take K)).length = K * 2 := by rw [flatS_length, List.length_take, hll.out]; omega
      have hld3 : (flatS (l.drop K)).length = (L - K) * 2 := by rw [flatS_length, List.length_drop, hll.out]
      have hlt3' := Lib.hid hlt3
      have hld3' := Lib.hid hld3
      have hgw3 : w.heap.size ≤ w3.heap.size := by omega
      clear hlt3 hld3
      rcases hparts with ⟨rfl, rfl, rfl⟩ | ⟨qx, rfl, hLc⟩
      · skip
        obtain rfl : K = 0 := by omega
        have hm0 : min (0 : Int) r = 0 := by omega
        clear hI hI1 hI0 hI2
        go_upto_region 7 with (at_builtin; (refine wpList_append_plain rfl _ _ 29 rfl w3.heap.size 66 i0 (.agg #[.int .i64 0, .int .i64 0]) 2 16 Tryd.underlying29 hi hz0 hz1 hz2 rfl (by decide) _ _ _ rfl (owns_empty rfl (Nat.le_refl _)) _ 0 ⟨_, _, rfl⟩ (.inl rfl) (flatS (l.take 0)) rfl (by simpa using hlt3'.out) (fun ad c e => by cases e) flatS_one (by unfold maxLen; omega) (by omega) (by simp) ?_); intro v5 w5 hown5 hgrow5; rw [Nat.zero_add] at hown5; obtain ⟨x5, c5, rfl, _, _⟩ := owns_slice hown5)
        have hB5 : Below w3.heap.size w3 w5 := ((Below.refl _ _).alloc (Nat.le_refl _) _).grown hgrow5 (by simp) (fun r e => by cases e; exact Nat.le_refl _)
        have hown5' := Lib.hid hown5
        have hro5 := Lib.hid (owns_row hown5)
        have hs5 := hB5.size
        clear hown5 hgrow5
        go_upto_region 8 with (at_builtin; refine wpList_append_own _ rfl _ _ 29 rfl w3.heap.size 66 i0 (.agg #[.int .i64 0, .int .i64 0]) 2 16 Tryd.underlying29 hi hz0 hz1 hz2 rfl (by decide) _ _ _ rfl (hown5'.out.alloc _) ⟨w5.heap.size, 0, none⟩ 1 1 [.int .i64 j, .int .i64 0] rfl rfl (World.news_of_block (cs := #[.int .i64 j, .int .i64 0]) (t := 66) (fr := (0, 0)) (heap_alloc_new w5 _)) (by simp [Value.oneCell']) (by unfold maxLen; omega) (by omega) (by simp; omega) ?_; intro v7 w7 hown7 hgrow7 hnil7; obtain ⟨x7, c7, rfl, _, _⟩ := owns_slice hown7)
        have hB7 : Below w3.heap.size w3 w7 := (hB5.alloc hs5 _).grown hgrow7 (by simp; omega) (fun r e => hro5.out r e)
        have hown7' := Lib.hid hown7
        have hro7 := Lib.hid (owns_row hown7)
        have hs7 := hB7.size
        have hR7 := Lib.hid (hR3.out.keep hB7 (Nat.le_refl _))
        clear hown7 hgrow7 hnil7
        go_upto_region 9 with (at_builtin; (refine wpList_append_plain rfl _ _ 29 rfl w3.heap.size 66 i0 (.agg #[.int .i64 0, .int .i64 0]) 2 16 Tryd.underlying29 hi hz0 hz1 hz2 rfl (by decide) _ _ _ rfl hown7'.out _ (0 - 0) ⟨_, _, rfl⟩ (.inl rfl) (flatS (l.drop 0)) rfl (by simpa using hld3'.out) (fun ad c e => by cases e) flatS_one (by unfold maxLen; omega) (by omega) (by omega) ?_); intro v8 w8 hown8 hgrow8; rw [show 0 + 1 + (0 - 0) = 0 + 1 by omega] at hown8; obtain ⟨x8, c8, rfl, _, _⟩ := owns_slice hown8)
        have hB8 : Below w3.heap.size w3 w8 := hB7.grown hgrow8 hs7 (fun r e => hro7.out r e)
        obtain ⟨l8, hl8⟩ : ∃ l8, putL l 0 ((j : Int), 0) = l8 := ⟨_, rfl⟩
        have hown8' : Hid (w8.ownsRow w3.heap.size 66 2 (.slice x8 (0 + 1) c8) (0 + 1) (flatS l8)) := Lib.hid (by rw [← hl8, flat_put]; exact hown8)
        have hll8 : Hid (l8.length = 0 + 1) := Lib.hid (by rw [← hl8, putL_length, hll.out])
        have hsm8 : Hid (Half l8 j 0) := Lib.hid (by rw [← hl8]; exact Half.mk_ hsm.out (by have := hll.out; omega))
        have hs8 := hB8.size
        have hD8 := hD3'.out.keep hB8 (by omega)
        have hcall := next_any w8 g sv bs a b (k + 2 * j + 1) (0 + 1 - 0) hD8 (by omega) (by omega)
        have hG8 := Lib.hid (grown_below2 hG3.out hB8)
        clear hown8 hgrow8 hl8 hD8 hB5 hB7 hB8 hR7 hR3 hown5' hown7' hro5 hro7
        go_wp2_with fail
        refine hcall.mono ?_
        clear hcall
        rintro e w9 ⟨⟨r2, rfl, hr20, hr21⟩, hD9, hg9⟩
        obtain ⟨J, hJ, hJL⟩ : ∃ J : Nat, (1 : Int) + r2 = J ∧ J ≤ 0 + 1 := ⟨((1 : Int) + r2).toNat, by omega, by omega⟩
        have hKJ : Hid (0 + 1 ≤ J) := Lib.hid (by omega)
        have hown9 := Lib.hid (owns_old hown8'.out hg9 (fun r e => .inl (by cases e; omega)))
        have hG9 := Lib.hid (hG8.out.trans hg9)
        have hs9 := hg9.size
        have hD9' := Lib.hid hD9
        have hR9 := Lib.hid (Row.of_owns (B := w9.heap.size) hown9.out hll8.out.symm (Nat.le_refl _))
        have hparts8 := owns_parts hown9.out
        obtain ⟨qy, rfl, hLc8⟩ : ∃ q : Nat, x8 = some ⟨q, 0, none⟩ ∧ 0 + 1 ≤ c8 := by
          rcases hparts8 with ⟨_, h0, _⟩ | h0
          · omega
          · exact h0
        have hqy : qy < w9.heap.size := by
          have := own_lt hown9.out qy rfl
          exact this
        have hltJ : Hid ((flatS (l8.take J)).length = J * 2) := Lib.hid (by rw [flatS_length, List.length_take, hll8.out]; omega)
        have hldJ : Hid ((flatS (l8.drop J)).length = (0 + 1 - J) * 2) := Lib.hid (by rw [flatS_length, List.length_drop, hll8.out])
        have hJc : J ≤ c8 := by omega
        clear hparts8 hown8' hD9 hg9 hr20 hr21
        go_upto_region 11 with (at_builtin; refine wpList_append_plain rfl _ _ 29 rfl w9.heap.size 66 i0 (.agg #[.int .i64 0, .int .i64 0]) 2 16 Tryd.underlying29 hi hz0 hz1 hz2 rfl (by decide) _ _ _ rfl (owns_empty rfl (Nat.le_refl _)) _ J ⟨_, _, rfl⟩ (.inr ⟨_, _, _, rfl⟩) (flatS (l8.take J)) rfl hltJ.out (fun ad c e i u hi => by cases e; exact ((Below.refl _ _).alloc (Nat.le_refl _) _ : Below w9.heap.size w9 _).cell (p := (⟨qy, 0, none⟩ : Addr).add i) (by rw [add_at]; exact hqy) |>.trans (takeNews hR9.out hll8.out hJL _ rfl i u hi)) flatS_one (by unfold maxLen; omega) (by omega) (by simp) ?_; intro v10 w10 hown10 hgrow10; rw [Nat.zero_add] at hown10; obtain ⟨x10, c10, rfl, _, _⟩ := owns_slice hown10)
        have hB10 : Below w9.heap.size w9 w10 := ((Below.refl _ _).alloc (Nat.le_refl _) _).grown hgrow10 (by simp) (fun r e => by cases e; exact Nat.le_refl _)
        have hown10' := Lib.hid hown10
        have hro10 := Lib.hid (owns_row hown10)
        have hs10 := hB10.size
        clear hown10 hgrow10
        go_upto_region 12 with (at_builtin; refine wpList_append_own _ rfl _ _ 29 rfl w9.heap.size 66 i0 (.agg #[.int .i64 0, .int .i64 0]) 2 16 Tryd.underlying29 hi hz0 hz1 hz2 rfl (by decide) _ _ _ rfl (hown10'.out.alloc _) ⟨w10.heap.size, 0, none⟩ 1 1 [.int .i64 j, .int .i64 1] rfl rfl (World.news_of_block (cs := #[.int .i64 j, .int .i64 1]) (t := 66) (fr := (0, 0)) (heap_alloc_new w10 _)) (by simp [Value.oneCell']) (by unfold maxLen; omega) (by omega) (by simp; omega) ?_; intro v11 w11 hown11 hgrow11 hnil11; obtain ⟨x11, c11, rfl, _, _⟩ := owns_slice hown11)
        have hB11 : Below w9.heap.size w9 w11 := (hB10.alloc hs10 _).grown hgrow11 (by simp; omega) (fun r e => hro10.out r e)
        have hown11' := Lib.hid hown11
        have hro11 := Lib.hid (owns_row hown11)
        have hs11 := hB11.size
        have hR11 := Lib.hid (hR9.out.keep hB11 (Nat.le_refl _))
        clear hown11 hgrow11 hnil11
        by_cases hcJ : c8 = J
        · have hdropJ : Hid (flatS (l8.drop J) = []) := Lib.hid (by rw [List.drop_eq_nil_of_le (by rw [hll8.out]; omega)]; rfl)
          have hJe : J = 0 + 1 := by omega
          have hJe2 : c8 = 0 + 1 := by omega
          subst hJe
          subst hJe2
          go_wp2_with (at_builtin; refine wpList_append_plain rfl _ _ 29 rfl w9.heap.size 66 i0 (.agg #[.int .i64 0, .int .i64 0]) 2 16 Tryd.underlying29 hi hz0 hz1 hz2 rfl (by decide) _ _ _ rfl hown11'.out _ 0 ⟨_, _, rfl⟩ (.inr ⟨_, _, _, rfl⟩) (flatS (l8.drop (0 + 1))) rfl (by simpa using hldJ.out) (fun ad c e i u hi => by rw [hdropJ.out] at hi; cases hi) flatS_one (by unfold maxLen; omega) (by omega) (by omega) ?_; intro v12 w12 hown12 hgrow12; rw [show (0 + 1) + 1 + 0 = 2 * (j + 1) by have := hjL.out; omega] at hown12; obtain ⟨x12, c12, rfl, _, _⟩ := owns_slice hown12)
          have hB12 : Below w9.heap.size w9 w12 := hB11.grown hgrow12 hs11 (fun r e => hro11.out r e)
          have hD12 := hD9'.out.keep hB12 (by omega)
          have hG12 := grown_below2 hG9.out hB12
          have hfin : Hid (w12.ownsRow w.heap.size 66 2 (.slice x12 (2 * (j + 1)) c12) (2 * (j + 1)) (flatS (putL l8 (0 + 1) ((j : Int), 1)))) := Lib.hid (by rw [flat_put]; exact owns_more hown12 (by omega))
          have hlf : Hid ((putL l8 (0 + 1) ((j : Int), 1)).length = 2 * (j + 1)) := Lib.hid (by rw [putL_length, hll8.out]; have := hjL.out; omega)
          have hD12' := Lib.hid hD12
          have hG12' := Lib.hid hG12
          clear hown12 hgrow12 hB12 hD12 hG12
          go_roundw
          case rel =>
            refine ⟨j + 1, putL l8 (0 + 1) ((j : Int), 1), x12, c12, by go_num, hlt, rfl, hlf, hfin.out, Lib.hid (hsm8.out.fine (by omega) (by have := hKJ.out; omega) (by rw [hll8.out]; omega)), ?_, hG12'.out⟩
            have := hD12'.out
            rw [show k + 2 * (j : Int) + 1 + 1 = k + 2 * ((j + 1 : Nat) : Int) by omega] at this
            exact this
          case measure => simp [intOf]; omega
        · skip
          go_wp2_with (at_builtin; refine wpList_append_plain rfl _ _ 29 rfl w9.heap.size 66 i0 (.agg #[.int .i64 0, .int .i64 0]) 2 16 Tryd.underlying29 hi hz0 hz1 hz2 rfl (by decide) _ _ _ rfl hown11'.out _ (0 + 1 - J) ⟨_, _, rfl⟩ (.inr ⟨_, _, _, rfl⟩) (flatS (l8.drop J)) rfl hldJ.out (fun ad c e i u hi => by cases e; exact dropNews hR11.out hll8.out hJL _ (by rw [if_neg hcJ, Option.map_some, add_at, Nat.zero_add]) i u hi) flatS_one (by unfold maxLen; omega) (by omega) (by omega) ?_; intro v12 w12 hown12 hgrow12; rw [show J + 1 + (0 + 1 - J) = 2 * (j + 1) by have := hjL.out; omega] at hown12; obtain ⟨x12, c12, rfl, _, _⟩ := owns_slice hown12)
          have hB12 : Below w9.heap.size w9 w12 := hB11.grown hgrow12 hs11 (fun r e => hro11.out r e)
          have hD12 := hD9'.out.keep hB12 (by omega)
          have hG12 := grown_below2 hG9.out hB12
          have hfin : Hid (w12.ownsRow w.heap.size 66 2 (.slice x12 (2 * (j + 1)) c12) (2 * (j + 1)) (flatS (putL l8 J ((j : Int), 1)))) := Lib.hid (by rw [flat_put]; exact owns_more hown12 (by omega))
          have hlf : Hid ((putL l8 J ((j : Int), 1)).length = 2 * (j + 1)) := Lib.hid (by rw [putL_length, hll8.out]; have := hjL.out; omega)
          have hD12' := Lib.hid hD12
          have hG12' := Lib.hid hG12
          clear hown12 hgrow12 hB12 hD12 hG12
          go_roundw
          case rel =>
            refine ⟨j + 1, putL l8 J ((j : Int), 1), x12, c12, by go_num, hlt, rfl, hlf, hfin.out, Lib.hid (hsm8.out.fine (by omega) (by have := hKJ.out; omega) (by rw [hll8.out]; omega)), ?_, hG12'.out⟩
            have := hD12'.out
            rw [show k + 2 * (j : Int) + 1 + 1 = k + 2 * ((j + 1 : Nat) : Int) by omega] at this
            exact this
          case measure => simp [intOf]; omega
      · have hqx : qx < w3.heap.size := by
          have := own_lt hown3.out qx rfl
          exact this
        have hKc : K ≤ cap := by omega
        by_cases hcK : cap = K
        · have hKe1 : L = K := by omega
          subst hKe1
          have hKe2 : L = cap := by omega
          subst hKe2
          have hdrop : Hid (flatS (l.drop L) = []) := Lib.hid (by rw [List.drop_eq_nil_of_le (by rw [hll.out]; omega)]; rfl)
          go_upto_region 7 with (at_builtin; (refine wpList_append_plain rfl _ _ 29 rfl w3.heap.size 66 i0 (.agg #[.int .i64 0, .int .i64 0]) 2 16 Tryd.underlying29 hi hz0 hz1 hz2 rfl (by decide) _ _ _ rfl (owns_empty rfl (Nat.le_refl _)) _ L ⟨_, _, rfl⟩ (.inr ⟨_, _, _, rfl⟩) (flatS (l.take L)) rfl (by simpa using hlt3'.out) (fun ad c e j u hj => by cases e; exact ((Below.refl _ _).alloc (Nat.le_refl _) _ : Below w3.heap.size w3 _).cell (p := (⟨qx, 0, none⟩ : Addr).add j) (by rw [add_at]; exact hqx) |>.trans (takeNews hR3.out hll.out hKL _ rfl j u hj)) flatS_one (by unfold maxLen; omega) (by omega) (by simp) ?_); intro v5 w5 hown5 hgrow5; rw [Nat.zero_add] at hown5; obtain ⟨x5, c5, rfl, _, _⟩ := owns_slice hown5)
          have hB5 : Below w3.heap.size w3 w5 := ((Below.refl _ _).alloc (Nat.le_refl _) _).grown hgrow5 (by simp) (fun r e => by cases e; exact Nat.le_refl _)
          have hown5' := Lib.hid hown5
          have hro5 := Lib.hid (owns_row hown5)
          have hs5 := hB5.size
          clear hown5 hgrow5
          go_upto_region 8 with (at_builtin; refine wpList_append_own _ rfl _ _ 29 rfl w3.heap.size 66 i0 (.agg #[.int .i64 0, .int .i64 0]) 2 16 Tryd.underlying29 hi hz0 hz1 hz2 rfl (by decide) _ _ _ rfl (hown5'.out.alloc _) ⟨w5.heap.size, 0, none⟩ 1 1 [.int .i64 j, .int .i64 0] rfl rfl (World.news_of_block (cs := #[.int .i64 j, .int .i64 0]) (t := 66) (fr := (0, 0)) (heap_alloc_new w5 _)) (by simp [Value.oneCell']) (by unfold maxLen; omega) (by omega) (by simp; omega) ?_; intro v7 w7 hown7 hgrow7 hnil7; obtain ⟨x7, c7, rfl, _, _⟩ := owns_slice hown7)
          have hB7 : Below w3.heap.size w3 w7 := (hB5.alloc hs5 _).grown hgrow7 (by simp; omega) (fun r e => hro5.out r e)
          have hown7' := Lib.hid hown7
          have hro7 := Lib.hid (owns_row hown7)
          have hs7 := hB7.size
          have hR7 := Lib.hid (hR3.out.keep hB7 (Nat.le_refl _))
          clear hown7 hgrow7 hnil7
          go_upto_region 9 with (at_builtin; (refine wpList_append_plain rfl _ _ 29 rfl w3.heap.size 66 i0 (.agg #[.int .i64 0, .int .i64 0]) 2 16 Tryd.underlying29 hi hz0 hz1 hz2 rfl (by decide) _ _ _ rfl hown7'.out _ 0 ⟨_, _, rfl⟩ (.inr ⟨_, _, _, rfl⟩) (flatS (l.drop L)) rfl (by simpa using hld3'.out) (fun ad c e j u hj => by rw [hdrop.out] at hj; cases hj) flatS_one (by unfold maxLen; omega) (by omega) (by omega) ?_); intro v8 w8 hown8 hgrow8; rw [show L + 1 + 0 = L + 1 by omega] at hown8; obtain ⟨x8, c8, rfl, _, _⟩ := owns_slice hown8)
          have hB8 : Below w3.heap.size w3 w8 := hB7.grown hgrow8 hs7 (fun r e => hro7.out r e)
          obtain ⟨l8, hl8⟩ : ∃ l8, putL l L ((j : Int), 0) = l8 := ⟨_, rfl⟩
          have hown8' : Hid (w8.ownsRow w3.heap.size 66 2 (.slice x8 (L + 1) c8) (L + 1) (flatS l8)) := Lib.hid (by rw [← hl8, flat_put]; exact hown8)
          have hll8 : Hid (l8.length = L + 1) := Lib.hid (by rw [← hl8, putL_length, hll.out])
          have hsm8 : Hid (Half l8 j L) := Lib.hid (by rw [← hl8]; exact Half.mk_ hsm.out (by have := hll.out; omega))
          have hs8 := hB8.size
          have hD8 := hD3'.out.keep hB8 (by omega)
          have hcall := next_any w8 g sv bs a b (k + 2 * j + 1) (L + 1 - L) hD8 (by omega) (by omega)
          have hG8 := Lib.hid (grown_below2 hG3.out hB8)
          clear hown8 hgrow8 hl8 hD8 hB5 hB7 hB8 hR7 hR3 hown5' hown7' hro5 hro7
          go_wp2_with fail
          refine hcall.mono ?_
          clear hcall
          rintro e w9 ⟨⟨r2, rfl, hr20, hr21⟩, hD9, hg9⟩
          obtain ⟨J, hJ, hJL⟩ : ∃ J : Nat, (L : Int) + 1 + r2 = J ∧ J ≤ L + 1 := ⟨(((L : Int) + 1) + r2).toNat, by omega, by omega⟩
          have hKJ : Hid (L + 1 ≤ J) := Lib.hid (by omega)
          have hown9 := Lib.hid (owns_old hown8'.out hg9 (fun r e => .inl (by cases e; omega)))
          have hG9 := Lib.hid (hG8.out.trans hg9)
          have hs9 := hg9.size
          have hD9' := Lib.hid hD9
          have hR9 := Lib.hid (Row.of_owns (B := w9.heap.size) hown9.out hll8.out.symm (Nat.le_refl _))
          have hparts8 := owns_parts hown9.out
          obtain ⟨qy, rfl, hLc8⟩ : ∃ q : Nat, x8 = some ⟨q, 0, none⟩ ∧ L + 1 ≤ c8 := by
            rcases hparts8 with ⟨_, h0, _⟩ | h0
            · omega
            · exact h0
          have hqy : qy < w9.heap.size := by
            have := own_lt hown9.out qy rfl
            exact this
          have hltJ : Hid ((flatS (l8.take J)).length = J * 2) := Lib.hid (by rw [flatS_length, List.length_take, hll8.out]; omega)
          have hldJ : Hid ((flatS (l8.drop J)).length = (L + 1 - J) * 2) := Lib.hid (by rw [flatS_length, List.length_drop, hll8.out])
          have hJc : J ≤ c8 := by omega
          clear hparts8 hown8' hD9 hg9 hr20 hr21
          go_upto_region 11 with (at_builtin; refine wpList_append_plain rfl _ _ 29 rfl w9.heap.size 66 i0 (.agg #[.int .i64 0, .int .i64 0]) 2 16 Tryd.underlying29 hi hz0 hz1 hz2 rfl (by decide) _ _ _ rfl (owns_empty rfl (Nat.le_refl _)) _ J ⟨_, _, rfl⟩ (.inr ⟨_, _, _, rfl⟩) (flatS (l8.take J)) rfl hltJ.out (fun ad c e i u hi => by cases e; exact ((Below.refl _ _).alloc (Nat.le_refl _) _ : Below w9.heap.size w9 _).cell (p := (⟨qy, 0, none⟩ : Addr).add i) (by rw [add_at]; exact hqy) |>.trans (takeNews hR9.out hll8.out hJL _ rfl i u hi)) flatS_one (by unfold maxLen; omega) (by omega) (by simp) ?_; intro v10 w10 hown10 hgrow10; rw [Nat.zero_add] at hown10; obtain ⟨x10, c10, rfl, _, _⟩ := owns_slice hown10)
          have hB10 : Below w9.heap.size w9 w10 := ((Below.refl _ _).alloc (Nat.le_refl _) _).grown hgrow10 (by simp) (fun r e => by cases e; exact Nat.le_refl _)
          have hown10' := Lib.hid hown10
          have hro10 := Lib.hid (owns_row hown10)
          have hs10 := hB10.size
          clear hown10 hgrow10
          go_upto_region 12 with (at_builtin; refine wpList_append_own _ rfl _ _ 29 rfl w9.heap.size 66 i0 (.agg #[.int .i64 0, .int .i64 0]) 2 16 Tryd.underlying29 hi hz0 hz1 hz2 rfl (by decide) _ _ _ rfl (hown10'.out.alloc _) ⟨w10.heap.size, 0, none⟩ 1 1 [.int .i64 j, .int .i64 1] rfl rfl (World.news_of_block (cs := #[.int .i64 j, .int .i64 1]) (t := 66) (fr := (0, 0)) (heap_alloc_new w10 _)) (by simp [Value.oneCell']) (by unfold maxLen; omega) (by omega) (by simp; omega) ?_; intro v11 w11 hown11 hgrow11 hnil11; obtain ⟨x11, c11, rfl, _, _⟩ := owns_slice hown11)
          have hB11 : Below w9.heap.size w9 w11 := (hB10.alloc hs10 _).grown hgrow11 (by simp; omega) (fun r e => hro10.out r e)
          have hown11' := Lib.hid hown11
          have hro11 := Lib.hid (owns_row hown11)
          have hs11 := hB11.size
          have hR11 := Lib.hid (hR9.out.keep hB11 (Nat.le_refl _))
          clear hown11 hgrow11 hnil11
          by_cases hcJ : c8 = J
          · have hdropJ : Hid (flatS (l8.drop J) = []) := Lib.hid (by rw [List.drop_eq_nil_of_le (by rw [hll8.out]; omega)]; rfl)
            have hJe : J = L + 1 := by omega
            have hJe2 : c8 = L + 1 := by omega
            subst hJe
            subst hJe2
            go_wp2_with (at_builtin; refine wpList_append_plain rfl _ _ 29 rfl w9.heap.size 66 i0 (.agg #[.int .i64 0, .int .i64 0]) 2 16 Tryd.underlying29 hi hz0 hz1 hz2 rfl (by decide) _ _ _ rfl hown11'.out _ 0 ⟨_, _, rfl⟩ (.inr ⟨_, _, _, rfl⟩) (flatS (l8.drop (L + 1))) rfl (by simpa using hldJ.out) (fun ad c e i u hi => by rw [hdropJ.out] at hi; cases hi) flatS_one (by unfold maxLen; omega) (by omega) (by omega) ?_; intro v12 w12 hown12 hgrow12; rw [show (L + 1) + 1 + 0 = 2 * (j + 1) by have := hjL.out; omega] at hown12; obtain ⟨x12, c12, rfl, _, _⟩ := owns_slice hown12)
            have hB12 : Below w9.heap.size w9 w12 := hB11.grown hgrow12 hs11 (fun r e => hro11.out r e)
            have hD12 := hD9'.out.keep hB12 (by omega)
            have hG12 := grown_below2 hG9.out hB12
            have hfin : Hid (w12.ownsRow w.heap.size 66 2 (.slice x12 (2 * (j + 1)) c12) (2 * (j + 1)) (flatS (putL l8 (L + 1) ((j : Int), 1)))) := Lib.hid (by rw [flat_put]; exact owns_more hown12 (by omega))
            have hlf : Hid ((putL l8 (L + 1) ((j : Int), 1)).length = 2 * (j + 1)) := Lib.hid (by rw [putL_length, hll8.out]; have := hjL.out; omega)
            have hD12' := Lib.hid hD12
            have hG12' := Lib.hid hG12
            clear hown12 hgrow12 hB12 hD12 hG12
            go_roundw
            case rel =>
              refine ⟨j + 1, putL l8 (L + 1) ((j : Int), 1), x12, c12, by go_num, hlt, rfl, hlf, hfin.out, Lib.hid (hsm8.out.fine (by omega) (by have := hKJ.out; omega) (by rw [hll8.out]; omega)), ?_, hG12'.out⟩
              have := hD12'.out
              rw [show k + 2 * (j : Int) + 1 + 1 = k + 2 * ((j + 1 : Nat) : Int) by omega] at this
              exact this
            case measure => simp [intOf]; omega
          · skip
            go_wp2_with (at_builtin; refine wpList_append_plain rfl _ _ 29 rfl w9.heap.size 66 i0 (.agg #[.int .i64 0, .int .i64 0]) 2 16 Tryd.underlying29 hi hz0 hz1 hz2 rfl (by decide) _ _ _ rfl hown11'.out _ (L + 1 - J) ⟨_, _, rfl⟩ (.inr ⟨_, _, _, rfl⟩) (flatS (l8.drop J)) rfl hldJ.out (fun ad c e i u hi => by cases e; exact dropNews hR11.out hll8.out hJL _ (by rw [if_neg hcJ, Option.map_some, add_at, Nat.zero_add]) i u hi) flatS_one (by unfold maxLen; omega) (by omega) (by omega) ?_; intro v12 w12 hown12 hgrow12; rw [show J + 1 + (L + 1 - J) = 2 * (j + 1) by have := hjL.out; omega] at hown12; obtain ⟨x12, c12, rfl, _, _⟩ := owns_slice hown12)
            have hB12 : Below w9.heap.size w9 w12 := hB11.grown hgrow12 hs11 (fun r e => hro11.out r e)
            have hD12 := hD9'.out.keep hB12 (by omega)
            have hG12 := grown_below2 hG9.out hB12
            have hfin : Hid (w12.ownsRow w.heap.size 66 2 (.slice x12 (2 * (j + 1)) c12) (2 * (j + 1)) (flatS (putL l8 J ((j : Int), 1)))) := Lib.hid (by rw [flat_put]; exact owns_more hown12 (by omega))
            have hlf : Hid ((putL l8 J ((j : Int), 1)).length = 2 * (j + 1)) := Lib.hid (by rw [putL_length, hll8.out]; have := hjL.out; omega)
            have hD12' := Lib.hid hD12
            have hG12' := Lib.hid hG12
            clear hown12 hgrow12 hB12 hD12 hG12
            go_roundw
            case rel =>
              refine ⟨j + 1, putL l8 J ((j : Int), 1), x12, c12, by go_num, hlt, rfl, hlf, hfin.out, Lib.hid (hsm8.out.fine (by omega) (by have := hKJ.out; omega) (by rw [hll8.out]; omega)), ?_, hG12'.out⟩
              have := hD12'.out
              rw [show k + 2 * (j : Int) + 1 + 1 = k + 2 * ((j + 1 : Nat) : Int) by omega] at this
              exact this
            case measure => simp [intOf]; omega
        · skip
          go_upto_region 7 with (at_builtin; (refine wpList_append_plain rfl _ _ 29 rfl w3.heap.size 66 i0 (.agg #[.int .i64 0, .int .i64 0]) 2 16 Tryd.underlying29 hi hz0 hz1 hz2 rfl (by decide) _ _ _ rfl (owns_empty rfl (Nat.le_refl _)) _ K ⟨_, _, rfl⟩ (.inr ⟨_, _, _, rfl⟩) (flatS (l.take K)) rfl (by simpa using hlt3'.out) (fun ad c e j u hj => by cases e; exact ((Below.refl _ _).alloc (Nat.le_refl _) _ : Below w3.heap.size w3 _).cell (p := (⟨qx, 0, none⟩ : Addr).add j) (by rw [add_at]; exact hqx) |>.trans (takeNews hR3.out hll.out hKL _ rfl j u hj)) flatS_one (by unfold maxLen; omega) (by omega) (by simp) ?_); intro v5 w5 hown5 hgrow5; rw [Nat.zero_add] at hown5; obtain ⟨x5, c5, rfl, _, _⟩ := owns_slice hown5)
          have hB5 : Below w3.heap.size w3 w5 := ((Below.refl _ _).alloc (Nat.le_refl _) _).grown hgrow5 (by simp) (fun r e => by cases e; exact Nat.le_refl _)
          have hown5' := Lib.hid hown5
          have hro5 := Lib.hid (owns_row hown5)
          have hs5 := hB5.size
          clear hown5 hgrow5
          go_upto_region 8 with (at_builtin; refine wpList_append_own _ rfl _ _ 29 rfl w3.heap.size 66 i0 (.agg #[.int .i64 0, .int .i64 0]) 2 16 Tryd.underlying29 hi hz0 hz1 hz2 rfl (by decide) _ _ _ rfl (hown5'.out.alloc _) ⟨w5.heap.size, 0, none⟩ 1 1 [.int .i64 j, .int .i64 0] rfl rfl (World.news_of_block (cs := #[.int .i64 j, .int .i64 0]) (t := 66) (fr := (0, 0)) (heap_alloc_new w5 _)) (by simp [Value.oneCell']) (by unfold maxLen; omega) (by omega) (by simp; omega) ?_; intro v7 w7 hown7 hgrow7 hnil7; obtain ⟨x7, c7, rfl, _, _⟩ := owns_slice hown7)
          have hB7 : Below w3.heap.size w3 w7 := (hB5.alloc hs5 _).grown hgrow7 (by simp; omega) (fun r e => hro5.out r e)
          have hown7' := Lib.hid hown7
          have hro7 := Lib.hid (owns_row hown7)
          have hs7 := hB7.size
          have hR7 := Lib.hid (hR3.out.keep hB7 (Nat.le_refl _))
          clear hown7 hgrow7 hnil7
          go_upto_region 9 with (at_builtin; (refine wpList_append_plain rfl _ _ 29 rfl w3.heap.size 66 i0 (.agg #[.int .i64 0, .int .i64 0]) 2 16 Tryd.underlying29 hi hz0 hz1 hz2 rfl (by decide) _ _ _ rfl hown7'.out _ (L - K) ⟨_, _, rfl⟩ (.inr ⟨_, _, _, rfl⟩) (flatS (l.drop K)) rfl (by simpa using hld3'.out) (fun ad c e j u hj => by cases e; exact dropNews hR7.out hll.out hKL _ (by rw [if_neg hcK, Option.map_some, add_at, Nat.zero_add]) j u hj) flatS_one (by unfold maxLen; omega) (by omega) (by omega) ?_); intro v8 w8 hown8 hgrow8; rw [show K + 1 + (L - K) = L + 1 by omega] at hown8; obtain ⟨x8, c8, rfl, _, _⟩ := owns_slice hown8)
          have hB8 : Below w3.heap.size w3 w8 := hB7.grown hgrow8 hs7 (fun r e => hro7.out r e)
          obtain ⟨l8, hl8⟩ : ∃ l8, putL l K ((j : Int), 0) = l8 := ⟨_, rfl⟩
          have hown8' : Hid (w8.ownsRow w3.heap.size 66 2 (.slice x8 (L + 1) c8) (L + 1) (flatS l8)) := Lib.hid (by rw [← hl8, flat_put]; exact hown8)
          have hll8 : Hid (l8.length = L + 1) := Lib.hid (by rw [← hl8, putL_length, hll.out])
          have hsm8 : Hid (Half l8 j K) := Lib.hid (by rw [← hl8]; exact Half.mk_ hsm.out (by have := hll.out; omega))
          have hs8 := hB8.size
          have hD8 := hD3'.out.keep hB8 (by omega)
          have hcall := next_any w8 g sv bs a b (k + 2 * j + 1) (L + 1 - K) hD8 (by omega) (by omega)
          have hG8 := Lib.hid (grown_below2 hG3.out hB8)
          clear hown8 hgrow8 hl8 hD8 hB5 hB7 hB8 hR7 hR3 hown5' hown7' hro5 hro7
          go_wp2_with fail
          refine hcall.mono ?_
          clear hcall
          rintro e w9 ⟨⟨r2, rfl, hr20, hr21⟩, hD9, hg9⟩
          obtain ⟨J, hJ, hJL⟩ : ∃ J : Nat, (K : Int) + 1 + r2 = J ∧ J ≤ L + 1 := ⟨(((K : Int) + 1) + r2).toNat, by omega, by omega⟩
          have hKJ : Hid (K + 1 ≤ J) := Lib.hid (by omega)
          have hown9 := Lib.hid (owns_old hown8'.out hg9 (fun r e => .inl (by cases e; omega)))
          have hG9 := Lib.hid (hG8.out.trans hg9)
          have hs9 := hg9.size
          have hD9' := Lib.hid hD9
          have hR9 := Lib.hid (Row.of_owns (B := w9.heap.size) hown9.out hll8.out.symm (Nat.le_refl _))
          have hparts8 := owns_parts hown9.out
          obtain ⟨qy, rfl, hLc8⟩ : ∃ q : Nat, x8 = some ⟨q, 0, none⟩ ∧ L + 1 ≤ c8 := by
            rcases hparts8 with ⟨_, h0, _⟩ | h0
            · omega
            · exact h0
          have hqy : qy < w9.heap.size := by
            have := own_lt hown9.out qy rfl
            exact this
          have hltJ : Hid ((flatS (l8.take J)).length = J * 2) := Lib.hid (by rw [flatS_length, List.length_take, hll8.out]; omega)
          have hldJ : Hid ((flatS (l8.drop J)).length = (L + 1 - J) * 2) := Lib.hid (by rw [flatS_length, List.length_drop, hll8.out])
          have hJc : J ≤ c8 := by omega
          clear hparts8 hown8' hD9 hg9 hr20 hr21
          go_upto_region 11 with (at_builtin; refine wpList_append_plain rfl _ _ 29 rfl w9.heap.size 66 i0 (.agg #[.int .i64 0, .int .i64 0]) 2 16 Tryd.underlying29 hi hz0 hz1 hz2 rfl (by decide) _ _ _ rfl (owns_empty rfl (Nat.le_refl _)) _ J ⟨_, _, rfl⟩ (.inr ⟨_, _, _, rfl⟩) (flatS (l8.take J)) rfl hltJ.out (fun ad c e i u hi => by cases e; exact ((Below.refl _ _).alloc (Nat.le_refl _) _ : Below w9.heap.size w9 _).cell (p := (⟨qy, 0, none⟩ : Addr).add i) (by rw [add_at]; exact hqy) |>.trans (takeNews hR9.out hll8.out hJL _ rfl i u hi)) flatS_one (by unfold maxLen; omega) (by omega) (by simp) ?_; intro v10 w10 hown10 hgrow10; rw [Nat.zero_add] at hown10; obtain ⟨x10, c10, rfl, _, _⟩ := owns_slice hown10)
          have hB10 : Below w9.heap.size w9 w10 := ((Below.refl _ _).alloc (Nat.le_refl _) _).grown hgrow10 (by simp) (fun r e => by cases e; exact Nat.le_refl _)
          have hown10' := Lib.hid hown10
          have hro10 := Lib.hid (owns_row hown10)
          have hs10 := hB10.size
          clear hown10 hgrow10
          go_upto_region 12 with (at_builtin; refine wpList_append_own _ rfl _ _ 29 rfl w9.heap.size 66 i0 (.agg #[.int .i64 0, .int .i64 0]) 2 16 Tryd.underlying29 hi hz0 hz1 hz2 rfl (by decide) _ _ _ rfl (hown10'.out.alloc _) ⟨w10.heap.size, 0, none⟩ 1 1 [.int .i64 j, .int .i64 1] rfl rfl (World.news_of_block (cs := #[.int .i64 j, .int .i64 1]) (t := 66) (fr := (0, 0)) (heap_alloc_new w10 _)) (by simp [Value.oneCell']) (by unfold maxLen; omega) (by omega) (by simp; omega) ?_; intro v11 w11 hown11 hgrow11 hnil11; obtain ⟨x11, c11, rfl, _, _⟩ := owns_slice hown11)
          have hB11 : Below w9.heap.size w9 w11 := (hB10.alloc hs10 _).grown hgrow11 (by simp; omega) (fun r e => hro10.out r e)
          have hown11' := Lib.hid hown11
          have hro11 := Lib.hid (owns_row hown11)
          have hs11 := hB11.size
          have hR11 := Lib.hid (hR9.out.keep hB11 (Nat.le_refl _))
          clear hown11 hgrow11 hnil11
          by_cases hcJ : c8 = J
          · have hdropJ : Hid (flatS (l8.drop J) = []) := Lib.hid (by rw [List.drop_eq_nil_of_le (by rw [hll8.out]; omega)]; rfl)
            have hJe : J = L + 1 := by omega
            have hJe2 : c8 = L + 1 := by omega
            subst hJe
            subst hJe2
            go_wp2_with (at_builtin; refine wpList_append_plain rfl _ _ 29 rfl w9.heap.size 66 i0 (.agg #[.int .i64 0, .int .i64 0]) 2 16 Tryd.underlying29 hi hz0 hz1 hz2 rfl (by decide) _ _ _ rfl hown11'.out _ 0 ⟨_, _, rfl⟩ (.inr ⟨_, _, _, rfl⟩) (flatS (l8.drop (L + 1))) rfl (by simpa using hldJ.out) (fun ad c e i u hi => by rw [hdropJ.out] at hi; cases hi) flatS_one (by unfold maxLen; omega) (by omega) (by omega) ?_; intro v12 w12 hown12 hgrow12; rw [show (L + 1) + 1 + 0 = 2 * (j + 1) by have := hjL.out; omega] at hown12; obtain ⟨x12, c12, rfl, _, _⟩ := owns_slice hown12)
            have hB12 : Below w9.heap.size w9 w12 := hB11.grown hgrow12 hs11 (fun r e => hro11.out r e)
            have hD12 := hD9'.out.keep hB12 (by omega)
            have hG12 := grown_below2 hG9.out hB12
            have hfin : Hid (w12.ownsRow w.heap.size 66 2 (.slice x12 (2 * (j + 1)) c12) (2 * (j + 1)) (flatS (putL l8 (L + 1) ((j : Int), 1)))) := Lib.hid (by rw [flat_put]; exact owns_more hown12 (by omega))
            have hlf : Hid ((putL l8 (L + 1) ((j : Int), 1)).length = 2 * (j + 1)) := Lib.hid (by rw [putL_length, hll8.out]; have := hjL.out; omega)
            have hD12' := Lib.hid hD12
            have hG12' := Lib.hid hG12
            clear hown12 hgrow12 hB12 hD12 hG12
            go_roundw
            case rel =>
              refine ⟨j + 1, putL l8 (L + 1) ((j : Int), 1), x12, c12, by go_num, hlt, rfl, hlf, hfin.out, Lib.hid (hsm8.out.fine (by omega) (by have := hKJ.out; omega) (by rw [hll8.out]; omega)), ?_, hG12'.out⟩
              have := hD12'.out
              rw [show k + 2 * (j : Int) + 1 + 1 = k + 2 * ((j + 1 : Nat) : Int) by omega] at this
              exact this
            case measure => simp [intOf]; omega
          · skip
            go_wp2_with (at_builtin; refine wpList_append_plain rfl _ _ 29 rfl w9.heap.size 66 i0 (.agg #[.int .i64 0, .int .i64 0]) 2 16 Tryd.underlying29 hi hz0 hz1 hz2 rfl (by decide) _ _ _ rfl hown11'.out _ (L + 1 - J) ⟨_, _, rfl⟩ (.inr ⟨_, _, _, rfl⟩) (flatS (l8.drop J)) rfl hldJ.out (fun ad c e i u hi => by cases e; exact dropNews hR11.out hll8.out hJL _ (by rw [if_neg hcJ, Option.map_some, add_at, Nat.zero_add]) i u hi) flatS_one (by unfold maxLen; omega) (by omega) (by omega) ?_; intro v12 w12 hown12 hgrow12; rw [show J + 1 + (L + 1 - J) = 2 * (j + 1) by have := hjL.out; omega] at hown12; obtain ⟨x12, c12, rfl, _, _⟩ := owns_slice hown12)
            have hB12 : Below w9.heap.size w9 w12 := hB11.grown hgrow12 hs11 (fun r e => hro11.out r e)
            have hD12 := hD9'.out.keep hB12 (by omega)
            have hG12 := grown_below2 hG9.out hB12
            have hfin : Hid (w12.ownsRow w.heap.size 66 2 (.slice x12 (2 * (j + 1)) c12) (2 * (j + 1)) (flatS (putL l8 J ((j : Int), 1)))) := Lib.hid (by rw [flat_put]; exact owns_more hown12 (by omega))
            have hlf : Hid ((putL l8 J ((j : Int), 1)).length = 2 * (j + 1)) := Lib.hid (by rw [putL_length, hll8.out]; have := hjL.out; omega)
            have hD12' := Lib.hid hD12
            have hG12' := Lib.hid hG12
            clear hown12 hgrow12 hB12 hD12 hG12
            go_roundw
            case rel =>
              refine ⟨j + 1, putL l8 J ((j : Int), 1), x12, c12, by go_num, hlt, rfl, hlf, hfin.out, Lib.hid (hsm8.out.fine (by omega) (by have := hKJ.out; omega) (by rw [hll8.out]; omega)), ?_, hG12'.out⟩
              have := hD12'.out
              rw [show k + 2 * (j : Int) + 1 + 1 = k + 2 * ((j + 1 : Nat) : Int) by omega] at this
              exact this
            case measure => simp [intOf]; omega
    · obtain rfl : j = n := by omega
      have hown' := Lib.hid hown
      have hG' := Lib.hid hG
      clear hown hD hG
      go_wp2
      go_ret
      exact ⟨⟨_, l, rfl, by rw [hll.out]; exact hown'.out, hll.out, hsm.out⟩, hG'.out⟩

end Go.Proofs.YthjdacbgcpldjaaDoor.When

/-
  The contract of a draft's Parts.
-/
namespace Go.Proofs.YthjdacbgcpldjaaDoor.When
open Go.RowKit Go.Proofs.YthjdacbgcpldjaaDoor.Mem Go.Proofs.YthjdacbgcpldjaaDoor.Route
set_option linter.unusedVariables false

/-- What a draft gives. -/
def PartsOk (W : World) (v : Vh) (ul ut : Value) (l : List (Int × Int)) (t : List Rq) : Prop :=
  v.dr ∧ Row W.heap.size W ul l ∧ Fine l t.length ∧ l.length ≤ 12 ∧ Rqs W.heap.size W ut t ∧ t.length ≤ 6 ∧ ∀ q ∈ t, q.dr
theorem res_parts2 {fn : Func} {p c d : Tmp} (h : fn.results = #[.cell p 28, .tmp c, .tmp d]) {tmps : Array Value} {w : World} {g : Nat} {x0 x1 x2 x3 x4 b b2 : Value} (hp : tmps.getD p undef = .pointer (some ⟨g, 0, none⟩)) (hc : tmps.getD c undef = b) (hd : tmps.getD d undef = b2)
    (hA : At w g 28 #[x0, x1, x2, x3, x4]) : (results fn tmps).run Tryd.prog w = .ok (.tuple #[.agg #[x0, x1, x2, x3, x4], b, b2]) w := by
  have hp' : tmps[p]?.getD undef = .pointer (some ⟨g, 0, none⟩) := by simpa using hp
  have hc' : tmps[c]?.getD undef = b := by simpa using hc
  have hd' : tmps[d]?.getD undef = b2 := by simpa using hd
  have c0 := hA.cell 0
  have c1 := hA.cell 1
  have c2 := hA.cell 2
  have c3 := hA.cell 3
  have c4 := hA.cell 4
  simp at c0 c1 c2 c3 c4
  simp only [results, h]
  go_simp

theorem own_less {W : World} {b c : Nat} {e : TypeId} {size n : Nat} {v : Value} {xs : List Value} (h : W.ownsRow c e size v n xs) (hb : b ≤ c) : W.ownsRow b e size v n xs := by
  obtain ⟨hl, h1 | ⟨g, cap, cur, rfl, hg, hr⟩⟩ := h
  · exact ⟨hl, .inl h1⟩
  · exact ⟨hl, .inr ⟨g, cap, cur, rfl, Nat.le_trans hb hg, hr⟩⟩

set_option maxRecDepth 100000 in
set_option maxHeartbeats 1000000 in
theorem parts_new (xb : Option Addr) (Nb cb : Nat) (bs : List Int) (a b c : Int) (w : World) (hrow : RowB w.heap.size w (.slice xb Nb cb) 1 (bs.map byV)) (hby : ∀ x ∈ bs, 0 ≤ x ∧ x < 256) (ha : 0 ≤ a ∧ a < 256) (hb : 0 ≤ b ∧ b < 256) :
    Calls Tryd.prog 21 #[.agg #[.slice xb Nb cb, .int .u8 a, .int .u8 b, .int .i64 c]] w fun e w' =>
      (∃ v ul ut l t, e = .returned (.tuple #[.agg #[.int .i64 v.hx, .int .i64 v.hy, .int .i64 v.cp, .int .i64 v.st, .int .i64 v.en], ul, ut]) ∧ PartsOk w' v ul ut l t ∧ w'.ownsRow w.heap.size 60 10 ut t.length (flatQ t)) ∧ Below w.heap.size w w' := by
  obtain ⟨w0, hw0⟩ : ∃ w0, (w.alloc (.cells #[.slice xb Nb cb, .int .u8 a, .int .u8 b, .int .i64 0] 24)).alloc (.cells #[.int .i64 0, .int .i64 0, .int .i64 0, .int .i64 0, .int .i64 0] 28) = w0 := ⟨_, rfl⟩
  obtain ⟨g, hg⟩ : ∃ g, w.heap.size = g := ⟨_, rfl⟩
  have hs0 : w0.heap.size = g + 2 := by rw [← hw0, ← hg]; simp
  have hB0 : Below g w w0 := by rw [← hw0]; exact ((Below.refl _ _).alloc (by omega) _).alloc (by simp; omega) _
  have hD0 : DraftAt w0 g (.slice xb Nb cb) bs a b 0 := by
    refine ⟨?_, ?_, hby, ha, hb⟩
    · rw [← hw0]; exact (At.new_ _ _ _ hg.symm).alloc _
    · rw [← hg] at hB0 ⊢
      exact hrow.keep hB0 (Nat.le_refl _)
  have hV0 : At w0 (g + 1) 28 #[.int .i64 0, .int .i64 0, .int .i64 0, .int .i64 0, .int .i64 0] := by rw [← hw0]; exact At.new_ _ _ _ (by simp [hg])
  obtain ⟨m, hm⟩ : ∃ m : Nat, a % 7 = m := ⟨(a % 7).toNat, by omega⟩
  have hm6 : m ≤ 6 := by omega
  have ha1 : 0 ≤ a := ha.1
  have ha2 : a < 256 := ha.2
  have hw0' := Lib.hid hw0
  have p1 := hD0.box.cell 1
  simp at p1
  clear hrow hby ha hb hw0
  go_enter Tryd.func21, Tryd.ntmps21
  go_upto_region 2 with fail
  rw [hw0'.out]
  have hcQ := drequests_any w0 g _ bs a b 0 m hD0 (by omega) hm6
  rw [hs0] at hcQ
  clear hD0
  go_wp2_with fail
  refine hcQ.mono ?_
  clear hcQ p1
  rintro e w1 ⟨⟨u, t, rfl, hown, htl, hch⟩, hD1, hg1⟩
  have htl' := Lib.hid htl
  clear htl
  have hV1 := At.grownOff hV0 hg1 (by omega)
  have hs1 : g + 2 ≤ w1.heap.size := by have := hg1.size; omega
  have hB1 : Below g w w1 := hB0.grown hg1 (by omega) (fun r e => by cases e; exact Nat.le_refl _)
  have hcV := dvehicle_any w1 g _ bs a b (0 + 8 * m) hD1 (by omega)
  rw [htl'.out] at hown
  obtain ⟨x1, c1, rfl, _, _⟩ := owns_slice hown
  have hown' := Lib.hid hown
  clear hg1 hV0 hD1 hB0 hown
  go_wp2_with fail
  refine hcV.mono ?_
  clear hcV
  rintro e w2 ⟨⟨v, rfl, hv⟩, hD2, hg2⟩
  have hV2 := At.grownOff hV1 hg2 (by omega)
  have hs2 : g + 2 ≤ w2.heap.size := by have := hg2.size; omega
  have hB2 : Below g w w2 := hB1.grown hg2 (by omega) (fun r e => by cases e; exact Nat.le_refl _)
  have hown2 := Lib.hid (owns_old hown'.out hg2 (fun r e => .inl (by cases e; omega)))
  have hcR := droute_any w2 g _ bs a b (0 + 8 * m + 5) m hD2 (by omega) hm6
  clear hg2 hV1 hD2 hB1 hown'
  go_wp2_with fail
  refine hcR.mono ?_
  clear hcR
  rintro e w3 ⟨⟨u3, l, rfl, hown3, hll, hsm⟩, hg3⟩
  have hV3 := At.grownOff hV2 hg3 (by omega)
  have hs3 : g + 1 < w3.heap.size := by have := hg3.size; omega
  have hB3 : Below g w w3 := hB2.grown hg3 (by omega) (fun r e => by cases e; exact Nat.le_refl _)
  have hown4 := owns_far (owns_far (owns_far (owns_far (owns_far (owns_old hown2.out hg3 (fun r e => .inl (by cases e; omega))) (b := g + 1) (by omega) 0 (.int .i64 v.hx)) (b := g + 1) (by omega) 1 (.int .i64 v.hy)) (b := g + 1) (by omega) 2 (.int .i64 v.cp)) (b := g + 1) (by omega) 3 (.int .i64 v.st)) (b := g + 1) (by omega) 4 (.int .i64 v.en)
  have hown5 := owns_far (owns_far (owns_far (owns_far (owns_far hown3 (b := g + 1) (by omega) 0 (.int .i64 v.hx)) (b := g + 1) (by omega) 1 (.int .i64 v.hy)) (b := g + 1) (by omega) 2 (.int .i64 v.cp)) (b := g + 1) (by omega) 3 (.int .i64 v.st)) (b := g + 1) (by omega) 4 (.int .i64 v.en)
  obtain ⟨x3, c3, rfl, _, _⟩ := owns_slice hown3
  have hB5 := ((((hB3.setCell (p := ⟨g + 1, 0, none⟩) (by simp) (.int .i64 v.hx)).setCell (p := ⟨g + 1, 1, none⟩) (by simp) (.int .i64 v.hy)).setCell (p := ⟨g + 1, 2, none⟩) (by simp) (.int .i64 v.cp)).setCell (p := ⟨g + 1, 3, none⟩) (by simp) (.int .i64 v.st)).setCell (p := ⟨g + 1, 4, none⟩) (by simp) (.int .i64 v.en)
  have hV5 := put5 (y0 := .int .i64 v.hx) (y1 := .int .i64 v.hy) (y2 := .int .i64 v.cp) (y3 := .int .i64 v.st) (y4 := .int .i64 v.en) hV3
  have z0 := hV3.cell 0
  have z1 := hV3.cell 1
  have z2 := hV3.cell 2
  have z3 := hV3.cell 3
  have z4 := hV3.cell 4
  have zf := hV3.free
  simp at z0 z1 z2 z3 z4
  have h4 := Lib.hid hown4
  have h5 := Lib.hid hown5
  have h6 := Lib.hid hB5
  have h7 := Lib.hid hV5
  have hll' := Lib.hid hll
  clear hown4 hown5 hB5 hV5 hV3 hV2 hB2 hB3 hg3 hown2 hown3 hll
  go_wp2
  refine bodyPost_ret (res_parts2 rfl rfl rfl rfl (by exact h7.out)) rfl ?_
  refine ⟨⟨v, _, _, l, t, rfl, ⟨hv, Row.of_owns h5.out rfl (Nat.le_refl _), by rw [htl'.out]; exact hsm, by rw [hll'.out]; omega, Rqs.of_owns h4.out htl'.out.symm (Nat.le_refl _), by rw [htl'.out]; omega, hch⟩, by rw [hg, htl'.out]; exact own_less h4.out (by omega)⟩, ?_⟩
  rw [hg]
  exact h6.out
theorem parts_any (xb : Option Addr) (Nb cb : Nat) (bs : List Int) (a b c : Int) (w : World) (hrow : RowB w.heap.size w (.slice xb Nb cb) 1 (bs.map byV)) (hby : ∀ x ∈ bs, 0 ≤ x ∧ x < 256) (ha : 0 ≤ a ∧ a < 256) (hb : 0 ≤ b ∧ b < 256) :
    Calls Tryd.prog 21 #[.agg #[.slice xb Nb cb, .int .u8 a, .int .u8 b, .int .i64 c]] w fun e w' =>
      (∃ v ul ut l t, e = .returned (.tuple #[.agg #[.int .i64 v.hx, .int .i64 v.hy, .int .i64 v.cp, .int .i64 v.st, .int .i64 v.en], ul, ut]) ∧ PartsOk w' v ul ut l t) ∧ Below w.heap.size w w' :=
  (parts_new xb Nb cb bs a b c w hrow hby ha hb).mono fun e w' ⟨⟨v, ul, ut, l, t, he, hp, _⟩, hb⟩ => ⟨⟨v, ul, ut, l, t, he, hp⟩, hb⟩

end Go.Proofs.YthjdacbgcpldjaaDoor.When

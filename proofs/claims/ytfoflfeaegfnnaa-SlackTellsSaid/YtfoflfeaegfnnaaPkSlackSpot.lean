import Derived.Test.YtfoflfeaegfnnaaPkSlackVis

/-
  The contract of the document's spot.
-/
namespace Go.Proofs.Ytfoflfeaegfnnaa.Slack
open Go.RowKit Go.Sort Go.Proofs.Ytfoflfeaegfnnaa.Mem Go.Proofs.Ytfoflfeaegfnnaa.Route Go.Proofs.Ytfoflfeaegfnnaa.When Go.Proofs.Ytfoflfeaegfnnaa.Tail
set_option linter.unusedVariables false

theorem res_spot {fn : Func} {p c : Tmp} (h : fn.results = #[.cell p 29, .cell c 39]) {tmps : Array Value} {w : World} {g m : Nat} {x0 x1 y0 y1 : Value} (hp : tmps.getD p undef = .pointer (some ⟨g, 0, none⟩)) (hc : tmps.getD c undef = .pointer (some ⟨m, 0, none⟩))
    (hA : At w g 29 #[x0, x1]) (hB : At w m 39 #[y0, y1]) : (results fn tmps).run Try.prog w = .ok (.tuple #[.agg #[x0, x1], .agg #[y0, y1]]) w := by
  have hp' : tmps[p]?.getD undef = .pointer (some ⟨g, 0, none⟩) := by simpa using hp
  have hc' : tmps[c]?.getD undef = .pointer (some ⟨m, 0, none⟩) := by simpa using hc
  have c0 := hA.cell 0
  have c1 := hA.cell 1
  have d0 := hB.cell 0
  have d1 := hB.cell 1
  simp at c0 c1 d0 d1
  simp only [results, h]
  go_simp

set_option maxRecDepth 100000 in
set_option maxHeartbeats 2000000 in
theorem spot_any (r : Nat) (s2 : Int) (vt : Value) (t : List Rq) (x : Vi) (hx : visO t ((r : Int), s2) = some x) (w : World) (hT : Rqs w.heap.size w vt t) :
    Calls Try.prog 29 #[.agg #[.int .i64 r, .int .i64 s2], vt] w fun e w' => e = .returned (.tuple #[.agg #[.int .i64 x.px, .int .i64 x.py], .agg #[.int .i64 x.we, .int .i64 x.wl]]) ∧ Below w.heap.size w w' := by
  obtain ⟨xt, Nt, Ct, rfl, hNt, htc1, htc2, ht0⟩ := hT.opened
  unfold maxLen at htc2
  obtain ⟨q, hq, hr0, hr1, hsv, hk⟩ := visO_some hx
  simp only [Int.toNat_natCast] at hq
  have hrN : r < Nt := by rw [← hNt]; exact (List.getElem?_eq_some_iff.1 hq).1
  have hrI : ((r : Int) < (Nt : Int)) := by omega
  obtain ⟨n, hn⟩ : ∃ n, w.heap.size = n := ⟨_, rfl⟩
  obtain ⟨w1, hw1⟩ : ∃ w1, ((w.alloc (.cells #[.int .i64 r, .int .i64 s2] 58)).alloc (.cells #[.int .i64 0, .int .i64 0] 29)).alloc (.cells #[.int .i64 0, .int .i64 0] 39) = w1 := ⟨_, rfl⟩
  have hS1 : At w1 n 58 #[.int .i64 r, .int .i64 s2] := by rw [← hw1]; exact ((At.new_ _ _ _ hn.symm).alloc _).alloc _
  have hP1 : At w1 (n + 1) 29 #[.int .i64 0, .int .i64 0] := by rw [← hw1]; exact (At.new_ _ _ _ (by simp [hn])).alloc _
  have hW1 : At w1 (n + 2) 39 #[.int .i64 0, .int .i64 0] := by rw [← hw1]; exact At.new_ _ _ _ (by simp [hn])
  have hb1 : Below w.heap.size w w1 := by rw [← hw1]; exact (((Below.refl _ _).alloc (Nat.le_refl _) _).alloc (by simp) _).alloc (by simp; omega) _
  have hs1 : w1.heap.size = n + 3 := by rw [← hw1, ← hn]; simp
  obtain ⟨g, o, rfl, hg, d0, d1, d2, d3, d4, d5, d6, d7, d8, d9⟩ := Rqs.at (hT.keep hb1 (Nat.le_refl _)) hq
  obtain ⟨w2, hw2⟩ : ∃ w2, w1.alloc (.cells #[.int .i64 q.fx, .int .i64 q.fy, .int .i64 q.tx, .int .i64 q.ty, .int .i64 q.pe, .int .i64 q.pl, .int .i64 q.de, .int .i64 q.dl, .int .i64 q.ld, .int .i64 q.sv] 41) = w2 := ⟨_, rfl⟩
  have hQ2 : At w2 (n + 3) 41 #[.int .i64 q.fx, .int .i64 q.fy, .int .i64 q.tx, .int .i64 q.ty, .int .i64 q.pe, .int .i64 q.pl, .int .i64 q.de, .int .i64 q.dl, .int .i64 q.ld, .int .i64 q.sv] := by rw [← hw2]; exact At.new_ _ _ _ hs1.symm
  have hS2 : At w2 n 58 #[.int .i64 r, .int .i64 s2] := by rw [← hw2]; exact hS1.alloc _
  have hP2 : At w2 (n + 1) 29 #[.int .i64 0, .int .i64 0] := by rw [← hw2]; exact hP1.alloc _
  have hW2 : At w2 (n + 2) 39 #[.int .i64 0, .int .i64 0] := by rw [← hw2]; exact hW1.alloc _
  have hb2 : Below w.heap.size w w2 := by rw [← hw2]; exact hb1.alloc (by omega) _
  have y0 := hS1.cell 0
  have z1 := hS2.cell 1
  have p0 := hP2.cell 0
  have p1 := hP2.cell 1
  have pf := hP2.free
  have v0 := hW2.cell 0
  have v1 := hW2.cell 1
  have vf := hW2.free
  have q0 := hQ2.cell 0
  have q1 := hQ2.cell 1
  have q2 := hQ2.cell 2
  have q3 := hQ2.cell 3
  have q4 := hQ2.cell 4
  have q5 := hQ2.cell 5
  have q6 := hQ2.cell 6
  have q7 := hQ2.cell 7
  simp at y0 z1 p0 p1 v0 v1 q0 q1 q2 q3 q4 q5 q6 q7
  have hi2 : n + 3 < w2.heap.size := hQ2.inside
  have hi2a : n < w2.heap.size := by omega
  have hi2b : n + 1 < w2.heap.size := by omega
  have hi2c : n + 2 < w2.heap.size := by omega
  have hi1 : n < w1.heap.size := by omega
  have hw1' := Lib.hid hw1
  have hw2' := Lib.hid hw2
  have hn' := Lib.hid hn
  have hs1' := Lib.hid hs1
  have hP := Lib.hid hP2
  have hW := Lib.hid hW2
  have hb := Lib.hid hb2
  clear hw1 hw2 hn hs1 hT hx hq hNt ht0 hS1 hP1 hW1 hb1 hQ2 hS2 hP2 hW2 hb2 hsv
  rcases hk with ⟨hk, rfl⟩ | ⟨hk, rfl⟩
  · simp only at hk
    subst hk
    go_enter Try.func29, Try.ntmps29
    go_upto_region 1 with fail
    first | rw [hw1'.out] | (simp only [hn'.out]; rw [hw1'.out])
    try simp only [hn'.out]
    go_upto_region 2 with fail
    simp only [hs1'.out]
    rw [hw2'.out]
    clear d0 d1 d2 d3 d4 d5 d6 d7 d8 d9 y0
    go_upto_region 3 with fail
    go_region
    go_wp2
    refine bodyPost_ret (res_spot rfl rfl rfl (by first | exact (((put2 hP.out).far (by omega) _ _).far (by omega) _ _).drew) (by exact (put2 ((hW.out.far (by omega) _ _).far (by omega) _ _)).drew)) rfl ?_
    refine ⟨rfl, ?_⟩
    rw [hn'.out]
    have hb9 := hb.out
    rw [hn'.out] at hb9
    exact Below.drew ((((hb9.setCell (by simp) _).setCell (by simp) _).setCell (by simp; omega) _).setCell (by simp; omega) _)
  · simp only at hk
    subst hk
    go_enter Try.func29, Try.ntmps29
    go_upto_region 1 with fail
    first | rw [hw1'.out] | (simp only [hn'.out]; rw [hw1'.out])
    try simp only [hn'.out]
    go_upto_region 2 with fail
    simp only [hs1'.out]
    rw [hw2'.out]
    clear d0 d1 d2 d3 d4 d5 d6 d7 d8 d9 y0
    go_upto_region 3 with fail
    go_region
    go_wp2
    refine bodyPost_ret (res_spot rfl rfl rfl (by first | exact (((put2 hP.out).far (by omega) _ _).far (by omega) _ _).drew) (by exact (put2 ((hW.out.far (by omega) _ _).far (by omega) _ _)).drew)) rfl ?_
    refine ⟨rfl, ?_⟩
    rw [hn'.out]
    have hb9 := hb.out
    rw [hn'.out] at hb9
    exact Below.drew ((((hb9.setCell (by simp) _).setCell (by simp) _).setCell (by simp; omega) _).setCell (by simp; omega) _)

end Go.Proofs.Ytfoflfeaegfnnaa.Slack

import Derived.Test.YteefkijmodcijaaDoorPkFeasCheck

/-
  The laws' own told and chapter; 'works': the chapter's examples hold.
-/
namespace Go.Proofs.YteefkijmodcijaaDoor.Feas
open Go.RowKit Go.Sort Go.Proofs.YteefkijmodcijaaDoor.Mem Go.Proofs.YteefkijmodcijaaDoor.Route Go.Proofs.YteefkijmodcijaaDoor.When Go.Proofs.YteefkijmodcijaaDoor.Load Go.Proofs.YteefkijmodcijaaDoor.Float Go.Proofs.YteefkijmodcijaaDoor.Tail Go.Proofs.YteefkijmodcijaaDoor.Place
set_option linter.unusedVariables false

theorem errAt_no {w : World} {u : Value} {f : Int × Int × Int} (h : ErrAt w u f) (hf : f.1 = 0) : u = .nilIface := by
  rcases h with h | h
  · exact h.2
  · exact absurd hf h.1
theorem errAt_yes {w : World} {u : Value} {f : Int × Int × Int} (h : ErrAt w u f) (hf : f.1 ≠ 0) : ∃ q, u = .iface 92 (.pointer (some ⟨q, 0, none⟩)) ∧ At w q 55 #[.int .i64 f.1, .int .i64 f.2.1, .int .i64 f.2.2] := by
  rcases h with h | h
  · exact absurd h.1 hf
  · exact h.2

set_option maxHeartbeats 1000000 in
theorem told_yes (u : Value) (c p i : Int) (w : World) (hg : Hd w) (h : ErrAt w u (c, p, i)) (hc : c ≠ 0) :
    Calls Tryd.prog 23 #[u, .int .i64 c, .int .i64 p, .int .i64 i] w fun e w' => e = .returned (.bool true) ∧ Below w.heap.size w w' := by
  have hT := Told_any u (c, p, i) w hg h (fun e => absurd e hc)
  obtain ⟨q, rfl, hq⟩ := errAt_yes h hc
  simp only at hT
  clear h hq hc hg
  go_enter Tryd.func23, Tryd.ntmps23
  go_wp2_with fail
  refine hT.mono ?_
  rintro e w1 ⟨rfl, hb⟩
  go_wp2
  go_ret
  exact ⟨rfl, hb⟩

def vC : Vh := ⟨0, 0, 5, 0, 40⟩
def lC : List (Int × Int) := [(0, 0), (0, 1)]
def qC : Rq := ⟨5, 0, 9, 0, 0, 20, 0, 30, 3, 1⟩
def tC : List Rq := [qC]
theorem Row.laid2 {W : World} {g : Nat} {s1 s2 s3 s4 : Int} (h : At W g 65 #[.int .i64 s1, .int .i64 s2, .int .i64 s3, .int .i64 s4]) : Row W.heap.size W (.slice (some ⟨g, 0, none⟩) 2 2) [(s1, s2), (s3, s4)] :=
  RowB.of_at (m := 2) (rows := [stV (s1, s2), stV (s3, s4)]) h h.inside (fun r hr => by simp [stV] at hr; rcases hr with rfl | rfl <;> rfl) (fun i u hu => by simpa [stV] using hu) (Nat.le_refl _) (by decide)
theorem Row.laid21 {W : World} {g : Nat} {s1 s2 s3 s4 : Int} (h : At W g 65 #[.int .i64 s1, .int .i64 s2, .int .i64 s3, .int .i64 s4]) : Row W.heap.size W (.slice (some ⟨g, 0, none⟩) 1 2) [(s1, s2)] :=
  RowB.of_at (m := 2) (rows := [stV (s1, s2)]) h h.inside (fun r hr => by simp [stV] at hr; subst hr; rfl) (fun i u hu => by
    match i with
    | 0 => simpa [stV] using hu
    | 1 => simpa [stV] using hu
    | i + 2 => simp [stV] at hu) (by simp) (by decide)
theorem Row.laid22 {W : World} {g : Nat} {s1 s2 s3 s4 : Int} (h : At W g 65 #[.int .i64 s1, .int .i64 s2, .int .i64 s3, .int .i64 s4]) : Row W.heap.size W (.slice (some ⟨g, 2, none⟩) 1 1) [(s3, s4)] :=
  ⟨_, 1, rfl, Nat.le_refl _, by decide, fun e => (by cases e), fun j r hj => ⟨g, 2, rfl, h.inside, fun k u hk => by
    match j with
    | 0 =>
      simp [stV] at hj
      subst hj
      match k with
      | 0 => simp at hk; subst hk; simpa using h.cell 2
      | 1 => simp at hk; subst hk; simpa using h.cell 3
      | k + 2 => simp at hk
    | j + 1 => simp at hj⟩⟩
theorem Rqs.laid1 {W : World} {g : Nat} {q : Rq} (h : At W g 62 #[.int .i64 q.fx, .int .i64 q.fy, .int .i64 q.tx, .int .i64 q.ty, .int .i64 q.pe, .int .i64 q.pl, .int .i64 q.de, .int .i64 q.dl, .int .i64 q.ld, .int .i64 q.sv]) : Rqs W.heap.size W (.slice (some ⟨g, 0, none⟩) 1 1) [q] :=
  RowB.of_at (m := 10) (rows := [rqV q]) h h.inside (fun r hr => by simp at hr; subst hr; rfl) (fun i u hu => by simpa [rqV] using hu) (Nat.le_refl _) (by decide)
theorem Tms.laid2 {W : World} {g : Nat} {a0 a1 a2 b0 b1 b2 : Int} (h : At W g 40 #[.int .i64 a0, .int .i64 a1, .int .i64 a2, .int .i64 b0, .int .i64 b1, .int .i64 b2]) : Tms W.heap.size W (.slice (some ⟨g, 0, none⟩) 2 2) [⟨a0, a1, a2⟩, ⟨b0, b1, b2⟩] :=
  RowB.of_at (m := 3) (rows := [tmC ⟨a0, a1, a2⟩, tmC ⟨b0, b1, b2⟩]) h h.inside (fun r hr => by simp [tmC] at hr; rcases hr with rfl | rfl <;> rfl) (fun i u hu => by simpa [tmC] using hu) (Nat.le_refl _) (by decide)
theorem Tms.laid21 {W : World} {g : Nat} {a0 a1 a2 b0 b1 b2 : Int} (h : At W g 40 #[.int .i64 a0, .int .i64 a1, .int .i64 a2, .int .i64 b0, .int .i64 b1, .int .i64 b2]) : Tms W.heap.size W (.slice (some ⟨g, 0, none⟩) 1 2) [⟨a0, a1, a2⟩] :=
  RowB.of_at (m := 3) (rows := [tmC ⟨a0, a1, a2⟩]) h h.inside (fun r hr => by simp [tmC] at hr; subst hr; rfl) (fun i u hu => by
    match i with
    | 0 => simpa [tmC] using hu
    | 1 => simpa [tmC] using hu
    | 2 => simpa [tmC] using hu
    | i + 3 => simp [tmC] at hu) (by simp) (by decide)
theorem nums_of {l : List (Int × Int)} (h : (l.all fun s => decide (-9223372036854775808 ≤ s.1 ∧ s.1 ≤ 9223372036854775807 ∧ -9223372036854775808 ≤ s.2 ∧ s.2 ≤ 9223372036854775807)) = true) : Nums l := fun s hs => by
  have := of_decide_eq_true (List.all_eq_true.1 h s hs)
  exact ⟨⟨this.1, this.2.1⟩, this.2.2.1, this.2.2.2⟩
theorem res_parts {fn : Func} {p c d : Tmp} (h : fn.results = #[.cell p 34, .tmp c, .tmp d]) {tmps : Array Value} {w : World} {g : Nat} {x0 x1 x2 x3 x4 b b2 : Value} (hp : tmps.getD p undef = .pointer (some ⟨g, 0, none⟩)) (hc : tmps.getD c undef = b) (hd : tmps.getD d undef = b2)
    (c0 : w.cell? ⟨g, 0, none⟩ = some x0) (c1 : w.cell? ⟨g, 1, none⟩ = some x1) (c2 : w.cell? ⟨g, 2, none⟩ = some x2) (c3 : w.cell? ⟨g, 3, none⟩ = some x3) (c4 : w.cell? ⟨g, 4, none⟩ = some x4) : (results fn tmps).run Tryd.prog w = .ok (.tuple #[.agg #[x0, x1, x2, x3, x4], b, b2]) w := by
  have hp' : tmps[p]?.getD undef = .pointer (some ⟨g, 0, none⟩) := by simpa using hp
  have hc' : tmps[c]?.getD undef = b := by simpa using hc
  have hd' : tmps[d]?.getD undef = b2 := by simpa using hd
  simp only [results, h]
  go_simp

set_option maxRecDepth 100000 in
set_option maxHeartbeats 1000000 in
theorem chapter_any (w : World) : Calls Tryd.prog 22 #[] w fun e w' => (∃ gl gt, e = .returned (.tuple #[.agg #[.int .i64 0, .int .i64 0, .int .i64 5, .int .i64 0, .int .i64 40], .slice (some ⟨gl, 0, none⟩) 2 2, .slice (some ⟨gt, 0, none⟩) 1 1]) ∧
    At w' gl 65 #[.int .i64 0, .int .i64 0, .int .i64 0, .int .i64 1] ∧ At w' gt 62 #[.int .i64 5, .int .i64 0, .int .i64 9, .int .i64 0, .int .i64 0, .int .i64 20, .int .i64 0, .int .i64 30, .int .i64 3, .int .i64 1]) ∧ Below w.heap.size w w' := by
  go_enter Tryd.func22, Tryd.ntmps22
  go_wp2_with fail
  have hA0 : At ((w.alloc (.cells #[.int .i64 0, .int .i64 0, .int .i64 0, .int .i64 0, .int .i64 0] 34)).alloc (.cells #[.int .i64 5, .int .i64 0, .int .i64 9, .int .i64 0, .int .i64 0, .int .i64 20, .int .i64 0, .int .i64 30, .int .i64 3, .int .i64 1] 62)) w.heap.size 34 #[.int .i64 0, .int .i64 0, .int .i64 0, .int .i64 0, .int .i64 0] := (At.new _ _ _).alloc _
  have hQ0 : At ((w.alloc (.cells #[.int .i64 0, .int .i64 0, .int .i64 0, .int .i64 0, .int .i64 0] 34)).alloc (.cells #[.int .i64 5, .int .i64 0, .int .i64 9, .int .i64 0, .int .i64 0, .int .i64 20, .int .i64 0, .int .i64 30, .int .i64 3, .int .i64 1] 62)) (w.heap.size + 1) 62 #[.int .i64 5, .int .i64 0, .int .i64 9, .int .i64 0, .int .i64 0, .int .i64 20, .int .i64 0, .int .i64 30, .int .i64 3, .int .i64 1] := At.new_ _ _ _ (by simp)
  have hB0 : Below w.heap.size w ((w.alloc (.cells #[.int .i64 0, .int .i64 0, .int .i64 0, .int .i64 0, .int .i64 0] 34)).alloc (.cells #[.int .i64 5, .int .i64 0, .int .i64 9, .int .i64 0, .int .i64 0, .int .i64 20, .int .i64 0, .int .i64 30, .int .i64 3, .int .i64 1] 62)) := ((Below.refl _ _).alloc (Nat.le_refl _) _).alloc (by simp) _
  generalize (w.alloc (.cells #[.int .i64 0, .int .i64 0, .int .i64 0, .int .i64 0, .int .i64 0] 34)).alloc (.cells #[.int .i64 5, .int .i64 0, .int .i64 9, .int .i64 0, .int .i64 0, .int .i64 20, .int .i64 0, .int .i64 30, .int .i64 3, .int .i64 1] 62) = w1 at *
  have q0 := hQ0.cell 0
  have q1 := hQ0.cell 1
  have q2 := hQ0.cell 2
  have q3 := hQ0.cell 3
  have q4 := hQ0.cell 4
  have q5 := hQ0.cell 5
  have q6 := hQ0.cell 6
  have q7 := hQ0.cell 7
  have q8 := hQ0.cell 8
  have q9 := hQ0.cell 9
  have a0 := hA0.cell 0
  have a1 := hA0.cell 1
  have a2 := hA0.cell 2
  have a3 := hA0.cell 3
  have a4 := hA0.cell 4
  have af := hA0.free
  simp at q0 q1 q2 q3 q4 q5 q6 q7 q8 q9 a0 a1 a2 a3 a4
  have hn1 : w.heap.size < w1.heap.size := hA0.inside
  have hn2 : w.heap.size + 1 < w1.heap.size := hQ0.inside
  have hB0' := Lib.hid hB0
  clear hA0 hQ0 hB0
  go_region
  all_goals
    go_wp2
    refine bodyPost_ret (res_parts rfl rfl rfl rfl (x0 := .int .i64 0) (x1 := .int .i64 0) (x2 := .int .i64 5) (x3 := .int .i64 0) (x4 := .int .i64 40) (by go_simp) (by go_simp) (by go_simp) (by go_simp) (by go_simp)) rfl ?_
    refine ⟨⟨_, _, rfl, ?_, ?_⟩, ?_⟩
    · repeat (first | (with_reducible refine At.new_ _ _ _ ?_; simp; done) | with_reducible refine At.far ?_ (by simp <;> omega) _ _ | with_reducible refine At.drew ?_ | with_reducible refine At.alloc ?_ _)
    · repeat (first | (with_reducible refine At.new_ _ _ _ ?_; simp; done) | with_reducible refine At.far ?_ (by simp <;> omega) _ _ | with_reducible refine At.drew ?_ | with_reducible refine At.alloc ?_ _)
    · repeat (first | with_reducible refine Below.drew ?_ | with_reducible refine Below.setCell ?_ (by simp) _ | with_reducible refine Below.alloc ?_ (by simp <;> omega) _ | with_reducible exact hB0'.out)

end Go.Proofs.YteefkijmodcijaaDoor.Feas

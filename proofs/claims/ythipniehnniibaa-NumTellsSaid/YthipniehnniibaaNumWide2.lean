/-
  Contracts of the answer's own wide numbers (package consignref01): what is added, multiplied, and whether it fits.
-/
import Derived.Test.YthipniehnniibaaNumWide
import Derived.Test.YthipniehnniibaaMem
namespace Go.Proofs.Ythipniehnniibaa.Num
open Go.RowKit Go.Proofs.Ythipniehnniibaa.Mem
set_option linter.unusedVariables false

/-- A magnitude of four parts. -/
def mag (a b c d : Int) : Int := a + 4294967296 * (b + 4294967296 * (c + 4294967296 * d))
def valW (s : Bool) (m : Int) : Int := if s = true then -m else m
/-- A wide number whose value is n. -/
def IsWide (v : Value) (n : Int) : Prop :=
  ∃ (s : Bool) (a b c d : Int), v = wide s a b c d ∧ (0 ≤ a ∧ a < 4294967296) ∧ (0 ≤ b ∧ b < 4294967296) ∧ (0 ≤ c ∧ c < 4294967296) ∧ (0 ≤ d ∧ d < 4294967296) ∧ valW s (mag a b c d) = n
def SomeWide (w : World) (n : Int) (e : Ending) (w' : World) : Prop := (∃ v, e = .returned v ∧ IsWide v n) ∧ Below w.heap.size w w'

/-- What lay there lies there still. -/
theorem stays {W V : World} (h : Below W.heap.size W V) :
    (∀ b o, b < W.heap.size → V.cell? ⟨b, o, none⟩ = W.cell? ⟨b, o, none⟩) ∧ ∀ b o, b < W.heap.size → V.frozen? ⟨b, o, none⟩ = W.frozen? ⟨b, o, none⟩ :=
  ⟨fun _ _ hb => h.cell hb, fun _ _ hb => h.frozen hb⟩

theorem tail5 {w : World} {g b : Nat} {t : TypeId} {z0 z1 z2 z3 z4 : Value} (hb : g ≠ b) (h : At w g t #[z0, z1, z2, z3, z4]) (x1 x2 x3 x4 y0 y1 y2 y3 y4 : Value) :
    At (((((((((w.setCell ⟨b, 1, none⟩ x1).setCell ⟨b, 2, none⟩ x2).setCell ⟨b, 3, none⟩ x3).setCell ⟨b, 4, none⟩ x4).setCell ⟨g, 0, none⟩ y0).setCell ⟨g, 1, none⟩ y1).setCell ⟨g, 2, none⟩ y2).setCell ⟨g, 3, none⟩ y3).setCell ⟨g, 4, none⟩ y4) g t #[y0, y1, y2, y3, y4] :=
  ((((((((h.far hb 1 x1).far hb 2 x2).far hb 3 x3).far hb 4 x4).put 0 y0).put 1 y1).put 2 y2).put 3 y3).put 4 y4
theorem tail5_below {w0 w : World} {B g b : Nat} (h : Below B w0 w) (hg : B ≤ g) (hb : B ≤ b) (x1 x2 x3 x4 y0 y1 y2 y3 y4 : Value) :
    Below B w0 (((((((((w.setCell ⟨b, 1, none⟩ x1).setCell ⟨b, 2, none⟩ x2).setCell ⟨b, 3, none⟩ x3).setCell ⟨b, 4, none⟩ x4).setCell ⟨g, 0, none⟩ y0).setCell ⟨g, 1, none⟩ y1).setCell ⟨g, 2, none⟩ y2).setCell ⟨g, 3, none⟩ y3).setCell ⟨g, 4, none⟩ y4) :=
  ((((((((h.setCell (p := ⟨b, 1, none⟩) hb x1).setCell (p := ⟨b, 2, none⟩) hb x2).setCell (p := ⟨b, 3, none⟩) hb x3).setCell (p := ⟨b, 4, none⟩) hb x4).setCell (p := ⟨g, 0, none⟩) hg y0).setCell (p := ⟨g, 1, none⟩) hg y1).setCell (p := ⟨g, 2, none⟩) hg y2).setCell (p := ⟨g, 3, none⟩) hg y3).setCell (p := ⟨g, 4, none⟩) hg y4
theorem res_Add (tmps : Array Value) (V : World) (g : Nat) {s : Bool} {a b c d : Int} (hp : tmps[4]? = some (.pointer (some ⟨g, 0, none⟩))) (h : At V g 29 #[.bool s, .int .u64 a, .int .u64 b, .int .u64 c, .int .u64 d]) :
    (results Try.f11 tmps).run Try.prog V = .ok (wide s a b c d) V := by
  have c0 := h.cell 0
  have c1 := h.cell 1
  have c2 := h.cell 2
  have c3 := h.cell 3
  have c4 := h.cell 4
  simp only [List.getElem?_toArray, List.getElem?_cons_zero, List.getElem?_cons_succ] at c0 c1 c2 c3 c4
  simp [results, Try.results11, go_sem, wide, hp, c0, c1, c2, c3, c4]

set_option maxRecDepth 100000 in
set_option maxHeartbeats 2000000 in
theorem Add_same (s : Bool) (a0 a1 b0 b1 : Int) (w : World) (ha0 : 0 ≤ a0) (ha0' : a0 < 4294967296) (ha1 : 0 ≤ a1) (ha1' : a1 < 4294967296) (hb0 : 0 ≤ b0) (hb0' : b0 < 4294967296) (hb1 : 0 ≤ b1) (hb1' : b1 < 4294967296) :
    Calls Try.prog 11 #[wide s a0 a1 0 0, wide s b0 b1 0 0] w (SomeWide w (valW s (mag (a0 + b0) (a1 + b1) 0 0))) := by
  unfold wide
  go_enter Try.func11, Try.ntmps11
  go_wp2
  refine wp_loop_rounds 5 ?_
  rw [rounds_succ]
  go_wp2
  go_region
  all_goals go_wp2
  all_goals rw [rounds_succ]
  all_goals go_wp2
  all_goals go_region
  all_goals go_wp2
  all_goals rw [rounds_succ]
  all_goals go_wp2
  all_goals go_region
  all_goals go_wp2
  all_goals rw [rounds_succ]
  all_goals go_wp2
  all_goals go_region
  all_goals go_wp2
  all_goals rw [rounds_succ]
  all_goals go_wp2_with fail
  refine (carry_any _ _ _ _ _ (by omega) (by omega) (by omega) (by omega) (by omega) (by omega) (by omega) (by omega)).mono ?_
  rintro e w1 ⟨rfl, hb⟩
  have hB : Below w.heap.size w w1 := by
    refine Below.trans (b := _) ?_ (hb.mono (by simp; omega))
    repeat (first | exact Below.refl _ _ | refine Below.drew ?_ | refine Below.alloc ?_ (by simp <;> omega) _)
  have k2 : At w1 (w.heap.size + 1 + 1) 29 #[.bool false, .int .u64 0, .int .u64 0, .int .u64 0, .int .u64 0] :=
    At.keep (((((At.new_ _ _ _ (by simp)).alloc _).drew).drew).drew).drew hb (by simp)
  have k3 : At w1 (w.heap.size + 1 + 1 + 1) 29 #[.bool s, .int .u64 (a0 + b0), .int .u64 (a1 + b1), .int .u64 0, .int .u64 0] :=
    At.keep ((((At.new_ _ _ _ (by simp)).drew).drew).drew).drew hb (by simp)
  clear hb
  have c0 := k3.cell 0
  have c1 := k3.cell 1
  have c2 := k3.cell 2
  have c3 := k3.cell 3
  have c4 := k3.cell 4
  have d0 := k2.cell 0
  have d1 := k2.cell 1
  have d2 := k2.cell 2
  have d3 := k2.cell 3
  have d4 := k2.cell 4
  have f3 := k3.free
  have f2 := k2.free
  simp only [List.getElem?_toArray, List.getElem?_cons_zero, List.getElem?_cons_succ] at c0 c1 c2 c3 c4 d0 d1 d2 d3 d4
  have K2 := Lib.hid k2
  clear k2 k3
  go_wp2
  clear c0 c1 c2 c3 c4 d0 d1 d2 d3 d4 f2 f3
  refine bodyPost_ret (res_Add _ _ _ rfl (tail5 (by omega) K2.out _ _ _ _ _ _ _ _ _)) rfl ⟨⟨_, rfl, ?_⟩, tail5_below hB (by omega) (by omega) _ _ _ _ _ _ _ _ _⟩
  refine ⟨s, _, _, _, _, rfl, by omega, by omega, by omega, by omega, ?_⟩
  unfold valW mag
  split <;> omega

end Go.Proofs.Ythipniehnniibaa.Num

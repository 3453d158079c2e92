/-
  The program's reader: what is asked of it, and its step, for a number and for a text.
-/
import Derived.Test.YtjjmhkafhbeabaaOctGet
namespace Go.Proofs.Ytjjmhkafhbeabaa.Oct
open Go.RowKit Go.Sort Go.Proofs.Ytjjmhkafhbeabaa.Mem Go.Proofs.Ytjjmhkafhbeabaa.Route
set_option linter.unusedVariables false
attribute [local go_sem] str_append str_from str_to

/-- All blocks below B are as before, but r. -/
structure Chg (B r : Nat) (w w' : World) : Prop where
  os : w'.os = w.os
  tape : w'.tape = w.tape
  output : w'.output = w.output
  size : w.heap.size ≤ w'.heap.size
  block : ∀ k, k < B → k ≠ r → w'.heap[k]? = w.heap[k]?
theorem Chg.of_below {B r : Nat} {w v : World} (h : Below B w v) : Chg B r w v := ⟨h.os, h.tape, h.output, h.size, fun k hk _ => h.block k hk⟩
theorem Chg.refl (B r : Nat) (w : World) : Chg B r w w := .of_below (.refl _ _)
theorem Chg.trans {B r : Nat} {a b c : World} (h : Chg B r a b) (k : Chg B r b c) : Chg B r a c :=
  ⟨k.os.trans h.os, k.tape.trans h.tape, k.output.trans h.output, Nat.le_trans h.size k.size, fun j hj hr => (k.block j hj hr).trans (h.block j hj hr)⟩
theorem Chg.alloc {B r : Nat} {w v : World} (h : Chg B r w v) (hB : B ≤ v.heap.size) (o : Obj) : Chg B r w (v.alloc o) := h.trans (.of_below ((Below.refl _ _).alloc hB o))
theorem Chg.set {B r : Nat} {w v : World} (h : Chg B r w v) {g : Nat} (hg : B ≤ g ∨ g = r) (i : Nat) (x : Value) : Chg B r w (v.setCell ⟨g, i, none⟩ x) :=
  h.trans ⟨rfl, rfl, rfl, by simp [World.setCell], fun k hk hr => Below.heap_setCell v _ x k (by rcases hg with hg | hg <;> simp <;> omega)⟩
theorem Chg.row {B r : Nat} {w v : World} (h : Chg B r w v) {g : Nat} (hg : B ≤ g ∨ g = r) (cs : Array Value) : Chg B r w (v.setRow g cs) :=
  h.trans ⟨rfl, rfl, rfl, by rw [setRow_size]; exact Nat.le_refl _, fun k hk hr => setRow_other v g k cs (by rcases hg with hg | hg <;> omega)⟩
theorem Chg.grown {r : Nat} {w v : World} (h : Chg w.heap.size r w v) : w.grownBy v (some r) := ⟨h.os, h.tape, h.output, h.size, fun k hk hr => h.block k hk (by simpa using hr)⟩

def rdC : St → Array Value
  | some l => #[.string (str l), .bool false]
  | none => #[.string (str []), .bool true]
/-- A reader in this state. -/
def RdAt (w : World) (g : Nat) (st : St) : Prop := At w g 62 (rdC st)
theorem RdAt.keep {B : Nat} {w v : World} {g : Nat} {st : St} (h : RdAt w g st) (hb : Below B w v) (hg : g < B) : RdAt v g st := At.keep h hb hg
theorem RdAt.inside {w : World} {g : Nat} {st : St} (h : RdAt w g st) : g < w.heap.size := At.inside h
theorem RdAt.on {w v : World} {g : Nat} {st : St} (h : RdAt w g st) (hb : Below w.heap.size w v) : RdAt v g st := h.keep hb h.inside
theorem RdAt.same {w v : World} {g : Nat} {st : St} (h : RdAt w g st) (hb : v.heap[g]? = w.heap[g]?) : RdAt v g st := hb.trans h

theorem Read_any (l : Bs) (w : World) : Calls Try.prog 14 #[.string (str l)] w fun e w' => e = .returned (.pointer (some ⟨w.heap.size, 0, none⟩)) ∧ RdAt w' w.heap.size (some l) ∧ Below w.heap.size w w' := by
  have hA : RdAt (w.alloc (.cells #[.string (str l), .bool false] 62)) w.heap.size (some l) := At.new w _ _
  have hB : Below w.heap.size w (w.alloc (.cells #[.string (str l), .bool false] 62)) := (Below.refl _ _).alloc (Nat.le_refl _) _
  go_enter Try.func14, Try.ntmps14
  go_wp2
  go_ret
  exact ⟨rfl, hA, hB⟩

theorem Left_any (r : Nat) (st : St) (w : World) (h : RdAt w r st) : Calls Try.prog 19 #[.pointer (some ⟨r, 0, none⟩)] w fun e w' => e = .returned (.int .i64 (leftS st : Int)) ∧ w' = w := by
  cases st with
  | none =>
    have c0 := At.cell h 0
    simp [rdC] at c0
    go_enter Try.func19, Try.ntmps19
    go_wp2
    go_ret
    exact ⟨rfl, rfl⟩
  | some l =>
    have c0 := At.cell h 0
    simp [rdC] at c0
    go_enter Try.func19, Try.ntmps19
    go_wp2
    go_ret
    exact ⟨rfl, rfl⟩
theorem Left_nil (w : World) : Calls Try.prog 19 #[.pointer none] w fun e w' => e = .returned (.int .i64 0) ∧ w' = w := by
  go_enter Try.func19, Try.ntmps19
  go_wp2
  go_ret
  exact ⟨rfl, rfl⟩
theorem End_any (r : Nat) (st : St) (w : World) (h : RdAt w r st) : Calls Try.prog 21 #[.pointer (some ⟨r, 0, none⟩)] w fun e w' => e = .returned (.int .i64 (endS st)) ∧ w' = w := by
  rcases st with _ | (_ | ⟨b, l⟩)
  all_goals
    have c0 := At.cell h 0
    have c1 := At.cell h 1
    simp [rdC] at c0 c1
    go_enter Try.func21, Try.ntmps21
    go_wp2
    go_ret
    exact ⟨rfl, rfl⟩
theorem End_nil (w : World) : Calls Try.prog 21 #[.pointer none] w fun e w' => e = .returned (.int .i64 1) ∧ w' = w := by
  go_enter Try.func21, Try.ntmps21
  go_wp2
  go_ret
  exact ⟨rfl, rfl⟩

theorem ret_ib {a b : Int} {c d : Bool} (h : a = b) (h2 : c = d) : Ending.returned (.tuple #[.int .i64 a, .bool c]) = .returned (.tuple #[.int .i64 b, .bool d]) := by rw [h, h2]
/-- What is found at the front: a number. -/
theorem num1_any (l : Bs) (k : Int) (g1 g2 : Nat) (x : Int) (w : World) (hl : l.length ≤ 9223372036854775807) (h1 : At w g1 3 #[.int .i64 k]) (h2 : At w g2 23 #[.int .u64 x]) (hne : g1 ≠ g2) :
    Calls Try.prog 35 #[.string (str l), .pointer (some ⟨g1, 0, none⟩), .pointer (some ⟨g2, 0, none⟩)] w fun e w' => e = .returned (.tuple #[.int .i64 k, .bool (getOk l 0 k)]) ∧ w' = w.setCell ⟨g2, 0, none⟩ (.int .u64 (getN l 0 k : Int)) := by
  have hg := Get_any l 0 k hl w
  have c1 := h1.cell 0
  have c2 := h2.cell 0
  have f2 := h2.free 0
  simp at c1 c2
  have c1' : (w.setCell ⟨g2, 0, none⟩ (.int .u64 (getN l 0 k : Int))).cell? ⟨g1, 0, none⟩ = some (.int .i64 k) := (At.far h1 hne 0 _).cell 0
  clear h1 h2
  go_enter Try.func35, Try.ntmps35
  go_wp2_with fail
  refine hg.mono ?_
  rintro e w' ⟨rfl, rfl⟩
  go_wp2
  go_ret2
  exact ⟨rfl, rfl⟩

end Go.Proofs.Ytjjmhkafhbeabaa.Oct

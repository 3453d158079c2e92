import Derived.Test.YthjdacbgcpldjaaDoorPkMapN
import Derived.Test.YthjdacbgcpldjaaDoorPkPlaceMath

/-
  A map from numbers to what became of requests that a call has made, asked and written.
-/
namespace Go.Proofs.YthjdacbgcpldjaaDoor.Feas
open Go.RowKit Go.Proofs.YthjdacbgcpldjaaDoor.Mem Go.Proofs.YthjdacbgcpldjaaDoor.Route
set_option linter.unusedVariables false

/-- Block b is a map of n entries at most, which holds just what f tells. -/
def FateAt (w : World) (b n : Nat) (f : Int → Option Int) : Prop :=
  ∃ D : DataW Unit, w.ownsMap Tryd.prog 3 (plainElem Tryd.prog 171) b n D ∧
    ∀ r, Maps.has D (.int .i64 r) = (f r).isSome ∧ D.atKey (.int .i64 r) (.lit (.int .i64 0)) = .lit (.int .i64 ((f r).getD 0))

variable {w v : World} {b n : Nat} {f : Int → Option Int}
theorem FateAt.inside (h : FateAt w b n f) : b < w.heap.size := h.elim fun _ h => h.1.lt
theorem FateAt.same (h : FateAt w b n f) (e : v.heap[b]? = w.heap[b]?) : FateAt v b n f := by
  obtain ⟨D, ⟨es, clock, h1, h2⟩, h3⟩ := h
  exact ⟨D, ⟨es, clock, e.trans h1, h2⟩, h3⟩
theorem FateAt.keep (h : FateAt w b n f) {B : Nat} (hb : Below B w v) (hB : b < B) : FateAt v b n f := h.same (hb.block b hB)
theorem FateAt.alloc (h : FateAt w b n f) (o : Obj) : FateAt (w.alloc o) b n f := h.same (Below.heap_alloc w o b h.inside)
theorem FateAt.far (h : FateAt w b n f) {a : Addr} (ha : b ≠ a.block) (u : Value) : FateAt (w.setCell a u) b n f := h.same (Below.heap_setCell w a u b ha)
theorem FateAt.funs (h : FateAt w b n f) {g : Int → Option Int} (e : ∀ r, g r = f r) : FateAt w b n g := by
  have : g = f := funext e
  rw [this]; exact h
theorem FateAt.made (w : World) : FateAt (w.alloc (.map #[] 0)) w.heap.size 0 (fun _ => none) :=
  ⟨_, World.ownsMap_made w _ _ _, fun r => ⟨rfl, rfl⟩⟩
theorem FateAt.no_cells (h : FateAt w b n f) {g : Nat} {t : TypeId} {cs : Array Value} (hg : At w g t cs) : b ≠ g := by
  rintro rfl
  obtain ⟨D, ⟨es, clock, h1, h2⟩, h3⟩ := h
  have h4 : w.heap[b]? = some (.cells cs t (0, 0)) := hg
  rw [h4] at h1
  cases h1

/-- How many stops of each request there were. -/
def fateF (l : List (Int × Int)) (r : Int) : Option Int := if (ofR r l).length = 0 then none else some ((ofR r l).length : Nat)
theorem fateF_get (l : List (Int × Int)) (r : Int) : (fateF l r).getD 0 = ((ofR r l).length : Nat) := by
  unfold fateF
  split
  · rename_i h; rw [h]; rfl
  · rfl
theorem fateF_nil (r : Int) : fateF [] r = none := by simp [fateF, ofR]
theorem fateF_next (l : List (Int × Int)) (s : Int × Int) (q : Int) : fateF (l ++ [s]) q = (fun q => if q = s.1 then some (((ofR s.1 l).length : Int) + 1) else fateF l q) q := by
  unfold fateF
  simp only
  rw [ofR_append]
  by_cases hq : q = s.1
  · subst hq
    rw [ofR_cons_same rfl, List.length_append, if_neg (by simp), if_pos rfl]
    simp [ofR]
  · rw [ofR_cons_other (fun e => hq e.symm), if_neg hq, show ofR q [] = [] from rfl, List.append_nil]

end Go.Proofs.YthjdacbgcpldjaaDoor.Feas

/-
  What is known of one block of memory, whole: nothing here speaks of a program.
-/
import Derived.WalkKit
import Derived.Below
import Derived.Laws.OwnMore
import Derived.Deep.Draws
import Derived.Laws.Rows
namespace Go.Proofs.Ytkfienjlmnbonaa.Mem
open Go.RowKit

/-- Block g holds just these cells, of this type, and may be written. -/
def At (w : World) (g : Nat) (t : TypeId) (cs : Array Value) : Prop := w.heap[g]? = some (.cells cs t (0, 0))

variable {w v : World} {g : Nat} {t : TypeId} {cs : Array Value}
theorem At.cell (h : At w g t cs) (i : Nat) : w.cell? ⟨g, i, none⟩ = cs[i]? := cell_of_row w g i cs t (0, 0) h
theorem At.free (h : At w g t cs) (i : Nat) : w.frozen? ⟨g, i, none⟩ = false := by
  simp only [At] at h
  simp [World.frozen?, h]
theorem At.inside (h : At w g t cs) : g < w.heap.size := (Array.getElem?_eq_some_iff.1 h).1
theorem At.keep {B : Nat} (h : At w g t cs) (hb : Below B w v) (hg : g < B) : At v g t cs := (hb.block g hg).trans h
theorem At.drew (h : At w g t cs) : At w.drew g t cs := h
theorem At.drewN (h : At w g t cs) (n : Nat) : At (w.drewN n) g t cs := h
theorem At.alloc (h : At w g t cs) (o : Obj) : At (w.alloc o) g t cs := (Below.heap_alloc w o g h.inside).trans h
theorem At.new (w : World) (t : TypeId) (cs : Array Value) : At (w.alloc (.cells cs t)) w.heap.size t cs := heap_alloc_new w _
theorem At.new_ (w : World) (t : TypeId) (cs : Array Value) {n : Nat} (hn : n = w.heap.size) : At (w.alloc (.cells cs t)) n t cs := by subst hn; exact At.new w t cs
theorem At.put (h : At w g t cs) (i : Nat) (x : Value) : At (w.setCell ⟨g, i, none⟩ x) g t (cs.setIfInBounds i x) := by
  simp only [At] at h ⊢
  simp [World.setCell, Array.getElem?_modify, h]
theorem At.far (h : At w g t cs) {b : Nat} (hb : g ≠ b) (i : Nat) (x : Value) : At (w.setCell ⟨b, i, none⟩ x) g t cs := (Below.heap_setCell w ⟨b, i, none⟩ x g hb).trans h

end Go.Proofs.Ytkfienjlmnbonaa.Mem

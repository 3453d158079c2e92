/-
  Arrays of numbers in memory, whole or in part: loads, stores, results in a cell. Nothing here speaks of a program.
-/
import Derived.Test.YtkailfajemeeaaaDoorMem
import Derived.Test.YtkailfajemeeaaaDoorShaBits
import Derived.Laws.Tables
import Derived.Laws.CopyRow
namespace Go.Proofs.YtkailfajemeeaaaDoor.Sha
open Go.RowKit Go.Proofs.YtkailfajemeeaaaDoor.Mem
set_option linter.unusedVariables false

variable {P : Program}

theorem run_load_part (w : World) (g off : Nat) (ty : TypeId) (cs : List Value) (d : TypeDesc) (hc : ∀ j v, cs[j]? = some v → w.cell? ⟨g, off + j, none⟩ = some v)
    (hu : P.underlying ty = some d) (hd : (match d with | .struct _ | .array _ _ => true | _ => false) = true) (hi : (P.info? ty).map (·.size) = some cs.length) :
    (loadVar ty ⟨g, off, none⟩).run P w = .ok (.agg cs.toArray) w := by
  have hl : (loadCells ⟨g, off, none⟩ cs.length).run P w = .ok cs.toArray w :=
    run_loadCells_list (P := P) w ⟨g, off, none⟩ cs (fun j v hv => by
      have hadd : (⟨g, off, none⟩ : Addr).add j = ⟨g, off + j, none⟩ := by unfold Addr.add; split <;> simp_all
      rw [hadd]
      exact hc j v hv)
  cases hq : P.info? ty with
  | none => simp [hq] at hi
  | some i =>
    have hs : i.size = cs.length := by simpa [hq] using hi
    have hagg : (isAgg ty).run P w = .ok true w := by
      unfold isAgg
      rw [Sem.run_bind, run_underlying hu w]
      cases d <;> simp_all
    simp [loadVar, Sem.run_bind, hagg, sizeOf, typeInfo, hq, hs, hl]

theorem wp_load_part {o : Oper} {a : Act} {w : World} {K : Act → World → Prop} {Q : Exit → Act → World → Prop} (ty : TypeId) (x : Operand) (ho : o.op = .load ty x)
    (g off : Nat) (hx : a.eval x = .pointer (some ⟨g, off, none⟩)) (cs : List Value) (hc : ∀ j v, cs[j]? = some v → w.cell? ⟨g, off + j, none⟩ = some v) (d : TypeDesc)
    (hu : P.underlying ty = some d) (hd : (match d with | .struct _ | .array _ _ => true | _ => false) = true) (hi : (P.info? ty).map (·.size) = some cs.length)
    (h : K (a.put o.dst (.agg cs.toArray)) w) : o.wp P a w K Q := by
  unfold Oper.wp execOp
  simp only [ho, hx, Instr.loadAt, Instr.sureAddr, Sem.run_bind, Sem.run_pure, Result.andThen_ok, run_load_part w g off ty cs d hc hu hd hi]
  exact h
theorem wpList_load_part {ops : Array Oper} {rest : List Oper} {o : Oper} {a : Act} {w : World} {Q : Exit → Act → World → Prop} (hgd : o.guard = none) (ty : TypeId) (x : Operand) (ho : o.op = .load ty x)
    (g off : Nat) (hx : a.eval x = .pointer (some ⟨g, off, none⟩)) (cs : List Value) (hc : ∀ j v, cs[j]? = some v → w.cell? ⟨g, off + j, none⟩ = some v) (d : TypeDesc)
    (hu : P.underlying ty = some d) (hd : (match d with | .struct _ | .array _ _ => true | _ => false) = true) (hi : (P.info? ty).map (·.size) = some cs.length)
    (h : wpList P ops Q rest (a.put o.dst (.agg cs.toArray)) w) : wpList P ops Q (o :: rest) a w :=
  wpList_plain hgd fun _ hK => wp_load_part ty x ho g off hx cs hc d hu hd hi (hK _ _ h)

/-- A list's cells, from place o on, with those of another one in their place. -/
def putL (cs : List Value) (o : Nat) (vs : List Value) : List Value := cs.take o ++ vs ++ cs.drop (o + vs.length)
theorem run_store_part (w : World) (g off : Nat) (t ty : TypeId) (old : List Value) (cells : List Value) (hg : w.heap[g]? = some (.cells old.toArray t (0, 0))) (hi : (P.info? ty).map (·.size) = some cells.length)
    (ho : off + cells.length ≤ old.length) (h1 : ∀ v ∈ cells, v.oneCell' = true) :
    (storeVar ty ⟨g, off, none⟩ (.agg cells.toArray)).run P w = .ok () (w.setRow g (putL old off cells).toArray) := by
  have := run_storeCells_at P g off t cells 0 old.toArray w hg (by simpa using ho) h1
  cases hq : P.info? ty with
  | none => simp [hq] at hi
  | some i =>
    have hs : cells.length = i.size := by simp [hq] at hi; omega
    simp at this
    simp [storeVar, sizeOf, typeInfo, hq, Value.cells, hs, this, putL]
theorem wp_store_part {o : Oper} {a : Act} {w : World} {K : Act → World → Prop} {Q : Exit → Act → World → Prop} (ty : TypeId) (x y : Operand) (ho : o.op = .store ty x y)
    (g off : Nat) (cells : List Value) (hx : a.eval x = .pointer (some ⟨g, off, none⟩)) (hy : a.eval y = .agg cells.toArray)
    (t : TypeId) (old : List Value) (hg : w.heap[g]? = some (.cells old.toArray t (0, 0))) (hi : (P.info? ty).map (·.size) = some cells.length)
    (hold : off + cells.length ≤ old.length) (h1 : ∀ v ∈ cells, v.oneCell' = true)
    (h : K (a.put o.dst undef) (w.setRow g (putL old off cells).toArray)) : o.wp P a w K Q := by
  unfold Oper.wp execOp
  simp only [ho, hx, hy, Instr.storeAt, Instr.sureAddr, Sem.run_bind, Sem.run_pure, Result.andThen_ok, run_store_part w g off t ty old cells hg hi hold h1]
  exact h
theorem wpList_store_part {ops : Array Oper} {rest : List Oper} {o : Oper} {a : Act} {w : World} {Q : Exit → Act → World → Prop} (hgd : o.guard = none) (ty : TypeId) (x y : Operand) (ho : o.op = .store ty x y)
    (g off : Nat) (cells : List Value) (hx : a.eval x = .pointer (some ⟨g, off, none⟩)) (hy : a.eval y = .agg cells.toArray)
    (t : TypeId) (old : List Value) (hg : w.heap[g]? = some (.cells old.toArray t (0, 0))) (hi : (P.info? ty).map (·.size) = some cells.length)
    (hold : off + cells.length ≤ old.length) (h1 : ∀ v ∈ cells, v.oneCell' = true)
    (h : wpList P ops Q rest (a.put o.dst undef) (w.setRow g (putL old off cells).toArray)) : wpList P ops Q (o :: rest) a w :=
  wpList_plain hgd fun _ hK => wp_store_part ty x y ho g off cells hx hy t old hg hi hold h1 (hK _ _ h)

/-- Block g holds just these cells. -/
def AtL (w : World) (g : Nat) (t : TypeId) (cs : List Value) : Prop := At w g t cs.toArray
variable {w v : World} {g : Nat} {t : TypeId} {cs : List Value}
theorem AtL.at (h : AtL w g t cs) : w.heap[g]? = some (.cells cs.toArray t (0, 0)) := h
theorem AtL.inside (h : AtL w g t cs) : g < w.heap.size := At.inside h
theorem AtL.cell (h : AtL w g t cs) (i : Nat) : w.cell? ⟨g, i, none⟩ = cs[i]? := (At.cell h i).trans (by simp)
theorem AtL.get (h : AtL w g t cs) {i : Nat} {x : Value} (hx : cs[i]? = some x) : w.cell? ⟨g, i, none⟩ = some x := (h.cell i).trans hx
theorem AtL.free (h : AtL w g t cs) (i : Nat) : w.frozen? ⟨g, i, none⟩ = false := At.free h i
theorem AtL.keep {B : Nat} (h : AtL w g t cs) (hb : Below B w v) (hg : g < B) : AtL v g t cs := At.keep h hb hg
theorem AtL.on (h : AtL w g t cs) (hb : Below w.heap.size w v) : AtL v g t cs := At.keep h hb h.inside
theorem AtL.alloc (h : AtL w g t cs) (o : Obj) : AtL (w.alloc o) g t cs := At.alloc h o
theorem AtL.new (w : World) (t : TypeId) (cs : List Value) : AtL (w.alloc (.cells cs.toArray t)) w.heap.size t cs := At.new w t _
theorem AtL.put (h : AtL w g t cs) (i : Nat) (x : Value) : AtL (w.setCell ⟨g, i, none⟩ x) g t (cs.set i x) := by
  have := At.put h i x
  simpa [AtL] using this
theorem AtL.far (h : AtL w g t cs) {b : Nat} (hb : g ≠ b) (i : Nat) (x : Value) : AtL (w.setCell ⟨b, i, none⟩ x) g t cs := At.far h hb i x
theorem AtL.row (h : AtL w g t cs) (vs : List Value) : AtL (w.setRow g vs.toArray) g t vs := setRow_heap w g _ _ t _ h
theorem AtL.rowFar (h : AtL w g t cs) {b : Nat} (hb : g ≠ b) (vs : Array Value) : AtL (w.setRow b vs) g t cs := (setRow_other w b g vs hb).trans h
theorem At.rowFar {cs : Array Value} (h : At w g t cs) {b : Nat} (hb : g ≠ b) (vs : Array Value) : At (w.setRow b vs) g t cs := (setRow_other w b g vs hb).trans h
theorem below_row {B : Nat} (hb : Below B w v) (hg : B ≤ g) (cs : Array Value) : Below B w (v.setRow g cs) :=
  ⟨hb.os, hb.tape, hb.output, by rw [setRow_size]; exact hb.size, fun k hk => (setRow_other v g k cs (by omega)).trans (hb.block k hk)⟩

theorem ret_array {fn : Func} {a : Act} {p : Tmp} {ty : TypeId} (h : fn.results = #[.cell p ty]) (hp : a.tmps.getD p undef = .pointer (some ⟨g, 0, none⟩)) (hA : AtL w g t cs) (d : TypeDesc)
    (hu : P.underlying ty = some d) (hd : (match d with | .struct _ | .array _ _ => true | _ => false) = true) (hi : (P.info? ty).map (·.size) = some cs.length) :
    (results fn a.tmps).run P w = .ok (.agg cs.toArray) w := results_cell_row h _ w g t cs.toArray (0, 0) d hp hA hu hd (by simpa using hi)

theorem one_u32 {l : List Wd} : ∀ v ∈ l.map u32V, v.oneCell' = true := by
  intro v hv
  obtain ⟨x, -, rfl⟩ := List.mem_map.1 hv
  rfl
theorem one_u8 {l : List Nat} : ∀ v ∈ l.map u8V, v.oneCell' = true := by
  intro v hv
  obtain ⟨x, -, rfl⟩ := List.mem_map.1 hv
  rfl
theorem wpList_built {ops : Array Oper} {rest : List Oper} {o : Oper} {a : Act} {w : World} {Q : Exit → Act → World → Prop} (hg : o.guard = none) (t : TypeId) (i : Nat) (x : Operand) (ho : o.op = .build t #[(i, x)]) (v : Value) (hx : a.eval x = v) (cells : Array Value)
    (hb : P.built t [(i, v)] = some cells) (h : wpList P ops Q rest (a.put o.dst (.agg cells)) w) : wpList P ops Q (o :: rest) a w := by
  subst hx
  have hb' : P.built t ((#[(i, x)] : Array (Nat × Operand)).map fun (i, x) => (i, a.eval x)).toList = some cells := by simpa using hb
  exact wpList_build hg t _ ho (by rw [hb']; rfl) (by rw [hb']; exact h)
theorem run_index_arr (w : World) (t e : TypeId) (n : Nat) (cs : List Value) (k ke : IntKind) (i : Nat) (v : Value) (h : P.underlying t = some (.array n e)) (hn : i < n) (hi : cs[i]? = some v) (he : P.underlying e = some (.int ke)) (hs : (P.info? e).map (·.size) = some 1) :
    (Instr.index t (.agg cs.toArray) (.int k (i : Int))).run P w = .ok v w := by
  have hb : (0 : Int) ≤ (i : Int) ∧ (i : Int) < (n : Int) := by omega
  cases hq : P.info? e with
  | none => simp [hq] at hs
  | some j =>
    have h1 : j.size = 1 := by simpa [hq] using hs
    simp [Instr.index, run_underlying h, run_underlying he, asIntOf, hb, part, isAgg, sizeOf, typeInfo, hq, h1, hi, show ¬ n ≤ i by omega, go_sem]
/-- Words that fill up an array by and by. -/
def padW (n : Nat) (ws : List Wd) : List Value := (ws ++ List.replicate (n - ws.length) 0).map u32V
theorem padW_length {n : Nat} {ws : List Wd} (h : ws.length ≤ n) : (padW n ws).length = n := by simp [padW]; omega
theorem padW_get {n : Nat} {ws : List Wd} {k : Nat} (h : k < ws.length) : (padW n ws)[k]? = some (u32V (ws[k]'h)) := by
  rw [padW, List.map_append, List.getElem?_append_left (by simpa using h), List.getElem?_map, List.getElem?_eq_getElem h]
  rfl
theorem padW_set {n : Nat} {ws : List Wd} (h : ws.length < n) (x : Wd) : (padW n ws).set ws.length (u32V x) = padW n (ws ++ [x]) := by
  unfold padW
  obtain ⟨m, hm⟩ : ∃ m, n - ws.length = m + 1 := ⟨n - ws.length - 1, by omega⟩
  rw [hm, List.replicate_succ, ← List.map_set, List.length_append, List.length_singleton, show n - (ws.length + 1) = m by omega]
  congr 1
  rw [List.set_append_right _ _ (Nat.le_refl _)]
  simp
theorem padW_all {n : Nat} {ws : List Wd} (h : ws.length = n) : padW n ws = ws.map u32V := by simp [padW, h]
/-- The same of bytes. -/
def padB (n : Nat) (bs : List Nat) : List Value := (bs ++ List.replicate (n - bs.length) 0).map u8V
theorem padB_length {n : Nat} {bs : List Nat} (h : bs.length ≤ n) : (padB n bs).length = n := by simp [padB]; omega
theorem padB_set {n : Nat} {bs : List Nat} (h : bs.length < n) (x : Nat) : (padB n bs).set bs.length (u8V x) = padB n (bs ++ [x]) := by
  unfold padB
  obtain ⟨m, hm⟩ : ∃ m, n - bs.length = m + 1 := ⟨n - bs.length - 1, by omega⟩
  rw [hm, List.replicate_succ, ← List.map_set, List.length_append, List.length_singleton, show n - (bs.length + 1) = m by omega]
  congr 1
  rw [List.set_append_right _ _ (Nat.le_refl _)]
  simp
theorem padB_all {n : Nat} {bs : List Nat} (h : bs.length = n) : padB n bs = bs.map u8V := by simp [padB, h]

end Go.Proofs.YtkailfajemeeaaaDoor.Sha

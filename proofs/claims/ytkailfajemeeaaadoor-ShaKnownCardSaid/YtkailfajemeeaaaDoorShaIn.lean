/-
  Loads and stores of arrays, and a copy of a text, in a fenced walk. Nothing here speaks of a program.
-/
import Derived.Test.YtkailfajemeeaaaDoorShaArr
import Derived.Test.YtkailfajemeeaaaDoorShaPadding
import Derived.OwnWalkIn
import Derived.TacticsInMore
namespace Go.Proofs.YtkailfajemeeaaaDoor.Sha
open Go.RowKit Go.Proofs.YtkailfajemeeaaaDoor.Mem
set_option linter.unusedVariables false
variable {P : Program}

theorem wpListIn_run {F : Fence} {n : Nat} {ops : Array Oper} {rest : List Oper} {o : Oper} {a : Act} {w w' : World} {v : Value} {Q : Exit → Act → World → Prop} (hw : Region.wanted o (yielded ops a.tmps) = true)
    (hd : ∀ c, o.op ≠ .defer c) (ha : o.about P w a.eval = none) (hrun : (execOp a.eval o).run P w = .ok (.value v) w') (h : wpListIn F n P ops Q rest (a.put o.dst v) w') : wpListIn F n P ops Q (o :: rest) a w := by
  refine wpListIn_step fun K hK => ?_
  rw [if_pos hw]
  unfold Oper.wpIn
  refine ⟨fun f hf => (by rw [ha] at hf; cases hf), ?_⟩
  rw [Oper.semAt_plain F _ _ hd, hrun]
  exact hK _ _ h

theorem wpListIn_skip_run {F : Fence} {n : Nat} {ops : Array Oper} {rest : List Oper} {o : Oper} {a : Act} {w w' : World} {Q : Exit → Act → World → Prop} (hw : Region.wanted o (yielded ops a.tmps) = true)
    (hd : ∀ c, o.op ≠ .defer c) (ha : o.about P w a.eval = none) (hrun : (execOp a.eval o).run P w = .ok .skip w') (h : wpListIn F n P ops Q rest (a.put o.dst undef) w') : wpListIn F n P ops Q (o :: rest) a w := by
  refine wpListIn_step fun K hK => ?_
  rw [if_pos hw]
  unfold Oper.wpIn
  refine ⟨fun f hf => (by rw [ha] at hf; cases hf), ?_⟩
  rw [Oper.semAt_plain F _ _ hd, hrun]
  exact hK _ _ h
theorem wpListIn_load_part {F : Fence} {n : Nat} {ops : Array Oper} {rest : List Oper} {o : Oper} {a : Act} {w : World} {Q : Exit → Act → World → Prop} (hw : Region.wanted o (yielded ops a.tmps) = true) (ty : TypeId) (x : Operand) (ho : o.op = .load ty x)
    (g off : Nat) (hx : a.eval x = .pointer (some ⟨g, off, none⟩)) (cs : List Value) (hc : ∀ j v, cs[j]? = some v → w.cell? ⟨g, off + j, none⟩ = some v) (d : TypeDesc)
    (hu : P.underlying ty = some d) (hd : (match d with | .struct _ | .array _ _ => true | _ => false) = true) (hi : (P.info? ty).map (·.size) = some cs.length)
    (h : wpListIn F n P ops Q rest (a.put o.dst (.agg cs.toArray)) w) : wpListIn F n P ops Q (o :: rest) a w :=
  wpListIn_run hw (by rw [ho]; intro c hc'; cases hc') (by simp [Oper.about, ho]) (by
    unfold execOp
    simp only [ho, hx, Instr.loadAt, Instr.sureAddr, Sem.run_bind, Sem.run_pure, Result.andThen_ok, run_load_part w g off ty cs d hc hu hd hi]) h
theorem wpListIn_store_part {F : Fence} {n : Nat} {ops : Array Oper} {rest : List Oper} {o : Oper} {a : Act} {w : World} {Q : Exit → Act → World → Prop} (hw : Region.wanted o (yielded ops a.tmps) = true) (ty : TypeId) (x y : Operand) (ho : o.op = .store ty x y)
    (g off : Nat) (cells : List Value) (hx : a.eval x = .pointer (some ⟨g, off, none⟩)) (hy : a.eval y = .agg cells.toArray)
    (t : TypeId) (old : List Value) (hg : w.heap[g]? = some (.cells old.toArray t (0, 0))) (hi : (P.info? ty).map (·.size) = some cells.length)
    (hold : off + cells.length ≤ old.length) (h1 : ∀ v ∈ cells, v.oneCell' = true)
    (h : wpListIn F n P ops Q rest (a.put o.dst undef) (w.setRow g (putL old off cells).toArray)) : wpListIn F n P ops Q (o :: rest) a w :=
  wpListIn_skip_run hw (by rw [ho]; intro c hc'; cases hc') (by simp [Oper.about, ho]) (by
    unfold execOp
    simp only [ho, hx, hy, Instr.storeAt, Instr.sureAddr, Sem.run_bind, Sem.run_pure, Result.andThen_ok, run_store_part w g off t ty old cells hg hi hold h1]) h

/-- A copy of a text's front into an array. -/
theorem run_copy_str (w : World) (dT sT ty e : TypeId) (g o dLen dCap : Nat) (t : TypeId) (cur : List Value) (l : List Nat) (hl : ∀ x ∈ l, x < 256) (hu : P.underlying dT = some (.slice e)) (hs : (P.info? e).map (·.size) = some 1)
    (hg : w.heap[g]? = some (.cells cur.toArray t (0, 0))) (k : Nat) (hk : min l.length dLen = k) (hfit : o + k ≤ cur.length) :
    (Builtin.copy_ #[dT, sT] ty #[.slice (some ⟨g, o, none⟩) dLen dCap, .string (strOf l)]).run P w = .ok (goInt k) (w.setRow g (putL cur o ((l.take k).map u8V)).toArray) := by
  have hst := run_storeCells_at P g o t ((l.take k).map u8V) 0 cur.toArray w hg (by simp; omega) one_u8
  have hn : Nat.min (strOf l).size dLen = k := by rw [strOf_size]; exact hk
  have hcells : List.take k (List.map (fun b : UInt8 => Value.int .u8 (b.toNat : Int)) (strOf l).data.toList) = (l.take k).map u8V := by
    show List.take k (List.map (fun b : UInt8 => Value.int .u8 (b.toNat : Int)) (l.map UInt8.ofNat)) = _
    rw [List.map_map, ← List.map_take]
    refine List.map_congr_left fun x hx => ?_
    have := hl x (List.mem_of_mem_take hx)
    simp [u8V]
    omega
  simp only [Nat.add_zero] at hst
  cases hq : P.info? e with
  | none => simp [hq] at hs
  | some i =>
    have hlen : ((l.take k).map u8V).length = k := by simp; omega
    simp [Builtin.copy_, run_underlying hu, Builtin.lenOf, Builtin.firstCells, sizeOf, typeInfo, hq, hn]
    rw [hcells]
    simp only [List.length_map] at hst
    rw [hst]
    simp [putL]
theorem wpListIn_copy {F : Fence} {n : Nat} {ops : Array Oper} {rest : List Oper} {o : Oper} {a : Act} {w : World} {Q : Exit → Act → World → Prop} (hw : Region.wanted o (yielded ops a.tmps) = true) (d s : Operand) (dT sT : TypeId)
    (ho : o.op = .call { callee := .builtin .copy, args := #[d, s], argTypes := #[dT, sT] }) (vd vs : Value) (hd : a.eval d = vd) (hs : a.eval s = vs) (v' : Value) (w' : World)
    (hr : (Builtin.copy_ #[dT, sT] o.type #[vd, vs]).run P w = .ok v' w') (h : wpListIn F n P ops Q rest (a.put o.dst v') w') : wpListIn F n P ops Q (o :: rest) a w :=
  wpListIn_run hw (by rw [ho]; intro c hc'; cases hc') (by simp [Oper.about, ho, resolve, Target.leads, Sem.run_pure]) (by
    unfold execOp
    simp only [ho, resolve, invoke, builtin, Sem.run_bind, Sem.run_pure, Result.andThen_ok, List.map_toArray, List.map_cons, List.map_nil, hd, hs, hr]) h

end Go.Proofs.YtkailfajemeeaaaDoor.Sha

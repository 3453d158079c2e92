import Derived.Test.YteefkijmodcijaaDoorPkFeasSomeLaw43
import Derived.LaidEql
import Derived.Stop.Asserts
import Derived.RowKitTokens

/-
  errors.As of a fault, and of no error, at a target that is a pointer to a pointer to api.Fault, or to api.Errno; api.Told then tells it.
-/
namespace Go.Proofs.YteefkijmodcijaaDoor.Feas
open Go.RowKit Go.Extern.Stop Go.Stop Go.Extern Go.Proofs.YteefkijmodcijaaDoor.Mem
set_option linter.unusedVariables false

/-- The handle that package errors keeps: the type 'error'. -/
def errHandle : Value := .iface 168 (.agg #[.pointer (some ⟨2, 49, none⟩)])

theorem As_nil (t : Value) (w : World) :
    Calls Tryd.prog 42 #[.nilIface, t] w fun e w' => e = .returned (.bool false) ∧ w = w' := by
  go_enter Tryd.func42, Tryd.ntmps42
  go_wp2
  go_ret
  exact ⟨rfl, rfl⟩

abbrev hnd (t : TypeId) : Value := .pointer (some ⟨2, t, none⟩)
abbrev rty (t : TypeId) : Value := .iface 168 (.agg #[hnd t])

theorem valueOf90 (t : Addr) (w : World) : (ReflectliteValue.unpack (.iface 99 (.pointer (some t)))).run Tryd.prog w
    = .ok (.agg #[hnd 99, .pointer (some ⟨w.heap.size, 0, none⟩), .int .u64 150]) (w.alloc (.cells #[.pointer (some t)] 99)) := by kernel_rfl
theorem type90 (a : Addr) (w : World) : (ReflectliteValue.methodAny (ReflectliteValue.valueError "reflectlite.Value.Type" 0) (fun t _ _ _ => ReflectliteType.toType t) #[.agg #[hnd 99, .pointer (some a), .int .u64 150]]).run Tryd.prog w
    = .ok (rty 99) w := by kernel_rfl
theorem methodKind (h : Value) (w : World) : (Go.method 317 168 (.agg #[h]) "Kind").run Tryd.prog w = .ok (112, h) w := by kernel_rfl
theorem methodElem (h : Value) (w : World) : (Go.method 317 168 (.agg #[h]) "Elem").run Tryd.prog w = .ok (124, .agg #[h]) w := by kernel_rfl
theorem methodImplements (h : Value) (w : World) : (Go.method 317 168 (.agg #[h]) "Implements").run Tryd.prog w = .ok (125, .agg #[h]) w := by kernel_rfl
theorem methodAssignableTo (h : Value) (w : World) : (Go.method 317 168 (.agg #[h]) "AssignableTo").run Tryd.prog w = .ok (122, .agg #[h]) w := by kernel_rfl
theorem kind90 (w : World) : ((ReflectliteType.abiMethod fun t => (fun a : Nat => Value.int IntKind.u8 (a : Int)) <$> Rtype.kind t) #[hnd 99]).run Tryd.prog w = .ok (.int .u8 22) w := by kernel_rfl
theorem kind88 (w : World) : ((ReflectliteType.abiMethod fun t => (fun a : Nat => Value.int IntKind.u8 (a : Int)) <$> Rtype.kind t) #[hnd 92]).run Tryd.prog w = .ok (.int .u8 22) w := by kernel_rfl
theorem elem90 (w : World) : (ReflectliteType.method ReflectliteType.elem #[.agg #[hnd 99]]).run Tryd.prog w = .ok (rty 92) w := by kernel_rfl
theorem implements88 (w : World) : (ReflectliteType.relation "Implements" ReflectliteType.implements_ #[.agg #[hnd 92], rty 49]).run Tryd.prog w = .ok (.bool true) w := by kernel_rfl
theorem typeOf88 (v : Value) (w : World) : (ReflectliteType.typeOf #[.iface 92 v]).run Tryd.prog w = .ok (rty 92) w := by kernel_rfl
theorem assignable88 (w : World) : (ReflectliteType.relation "AssignableTo" ReflectliteType.assignableTo #[.agg #[hnd 92], rty 92]).run Tryd.prog w = .ok (.bool true) w := by kernel_rfl
theorem valueOf88 (e : Addr) (w : World) : (ReflectliteValue.unpack (.iface 92 (.pointer (some e)))).run Tryd.prog w
    = .ok (.agg #[hnd 92, .pointer (some ⟨w.heap.size, 0, none⟩), .int .u64 150]) (w.alloc (.cells #[.pointer (some e)] 92)) := by kernel_rfl
theorem arm1 {α : Type} (v : Value) (f : Value → α) (g : Array Value → α) : ReflectliteValue.method.match_2 (motive := fun _ => α) #[v] f g = f v := rfl
theorem arm2 {α : Type} (v x : Value) (f : Value → Value → α) (g : Array Value → α) : ReflectliteValue.set.match_3 (motive := fun _ => α) #[v, x] f g = f v x := rfl

/-! The entries that read or write memory. -/
theorem parts90 (a : Addr) (w : World) : (ReflectliteValue.parts (.agg #[hnd 99, .pointer (some a), .int .u64 150])).run Tryd.prog w = .ok (some (99, a, 150)) w := by kernel_rfl
theorem isNil90 (a p : Addr) (W : World) (ha : W.cell? a = some (.pointer (some p))) :
    (ReflectliteValue.method (ReflectliteValue.valueError "reflectlite.Value.IsNil" 0) ReflectliteValue.isNil #[.agg #[hnd 99, .pointer (some a), .int .u64 150]]).run Tryd.prog W = .ok (.bool false) W := by
  unfold ReflectliteValue.method
  rw [arm1]
  simp only [Sem.run_bind, parts90, Result.andThen]
  simp [ReflectliteValue.isNil, loadVar, isAgg, underlying, Tryd.underlying99, ha, Result.andThen]
theorem elemOf90 (w : World) : (Rtype.elem? 99).run Tryd.prog w = .ok (some 92) w := by kernel_rfl
theorem mk88 (p : Addr) (w : World) : (ReflectliteValue.mk 92 p ReflectliteValue.flagAddr).run Tryd.prog w = .ok (.agg #[hnd 92, .pointer (some p), .int .u64 406]) w := by kernel_rfl
theorem elemV90 (a p : Addr) (W : World) (ha : W.cell? a = some (.pointer (some p))) :
    (ReflectliteValue.method (ReflectliteValue.valueError "reflectlite.Value.Elem" 0) ReflectliteValue.elem #[.agg #[hnd 99, .pointer (some a), .int .u64 150]]).run Tryd.prog W
      = .ok (.agg #[hnd 92, .pointer (some p), .int .u64 406]) W := by
  unfold ReflectliteValue.method
  rw [arm1]
  simp only [Sem.run_bind, parts90, Result.andThen]
  simp [ReflectliteValue.elem, loadVar, isAgg, underlying, Tryd.underlying99, ha, Result.andThen, elemOf90, mk88]
theorem parts88a (a : Addr) (w : World) : (ReflectliteValue.parts (.agg #[hnd 92, .pointer (some a), .int .u64 406])).run Tryd.prog w = .ok (some (92, a, 406)) w := by kernel_rfl
theorem parts88 (a : Addr) (w : World) : (ReflectliteValue.parts (.agg #[hnd 92, .pointer (some a), .int .u64 150])).run Tryd.prog w = .ok (some (92, a, 150)) w := by kernel_rfl
theorem direct88 (w : World) : (Rtype.directlyAssignable 92 92).run Tryd.prog w = .ok true w := by kernel_rfl
theorem set88 (ta b e : Addr) (old : Value) (W : World) (hb : W.cell? b = some (.pointer (some e))) (ht : W.cell? ta = some old) (hf : W.frozen? ta = false) :
    (ReflectliteValue.set #[.agg #[hnd 92, .pointer (some ta), .int .u64 406], .agg #[hnd 92, .pointer (some b), .int .u64 150]]).run Tryd.prog W
      = .ok (.tuple #[]) (W.setCell ta (.pointer (some e))) := by
  unfold ReflectliteValue.set
  rw [arm2]
  simp only [Sem.run_bind, parts88a, parts88, Result.andThen]
  simp [ReflectliteValue.flagAddr, loadVar, isAgg, underlying, Tryd.underlying92, hb, Result.andThen, direct88, storeVar, Value.cells, storeCells, Addr.add]
  rw [run_store Tryd.prog W ta _ _ (by rfl)]
  simp [ht, hf]

set_option maxHeartbeats 4000000 in
theorem as_fault (q a t : Nat) (tgt : Value) (W : World) (ha : At W a 99 #[.pointer (some ⟨t, 0, none⟩)]) (ht : At W t 92 #[.pointer none]) :
    Calls Tryd.prog 76 #[.iface 92 (.pointer (some ⟨q, 0, none⟩)), tgt, .agg #[hnd 99, .pointer (some ⟨a, 0, none⟩), .int .u64 150], rty 92] W fun e w' =>
      e = .returned (.bool true) ∧ ((W.setCell ⟨t, 0, none⟩ (.pointer (some ⟨q, 0, none⟩))).alloc (.cells #[hnd 99, .pointer (some ⟨a, 0, none⟩), .int .u64 150] 144)).alloc (.cells #[.pointer (some ⟨q, 0, none⟩)] 92) = w' := by
  have h42 := @run_callFunc_extern Tryd.prog 73 _ (fun args => ReflectliteValue.unpack (args.getD 0 (.tuple #[]))) Tryd.func73 (by kernel_rfl) (by kernel_rfl) (by kernel_rfl) (by kernel_rfl)
  have h49 := @run_callFunc_extern Tryd.prog 89 _ ReflectliteType.typeOf Tryd.func89 (by kernel_rfl) (by kernel_rfl) (by kernel_rfl) (by kernel_rfl)
  have h82 := @run_callFunc_extern Tryd.prog 122 _ (ReflectliteType.relation "AssignableTo" ReflectliteType.assignableTo) Tryd.func122 (by kernel_rfl) (by kernel_rfl) (by kernel_rfl) (by kernel_rfl)
  have h50 := @run_callFunc_extern Tryd.prog 90 _ (ReflectliteValue.method (ReflectliteValue.valueError "reflectlite.Value.Elem" 0) ReflectliteValue.elem) Tryd.func90 (by kernel_rfl) (by kernel_rfl) (by kernel_rfl) (by kernel_rfl)
  have h51 := @run_callFunc_extern Tryd.prog 91 _ ReflectliteValue.set Tryd.func91 (by kernel_rfl) (by kernel_rfl) (by kernel_rfl) (by kernel_rfl)
  have mA := methodAssignableTo
  have t88 := typeOf88
  have a88 := assignable88
  have v88 := valueOf88
  have hal := ha.inside
  have htl := ht.inside
  have hW1 : (W.alloc (.cells #[hnd 99, .pointer (some ⟨a, 0, none⟩), .int .u64 150] 144)).heap.size = W.heap.size + 1 := by simp
  have el := elemV90 ⟨a, 0, none⟩ ⟨t, 0, none⟩ (W.alloc (.cells #[hnd 99, .pointer (some ⟨a, 0, none⟩), .int .u64 150] 144)) (by simpa using (ha.alloc _).cell 0)
  have st := set88 ⟨t, 0, none⟩ ⟨W.heap.size + 1, 0, none⟩ ⟨q, 0, none⟩ (.pointer none) ((W.alloc (.cells #[hnd 99, .pointer (some ⟨a, 0, none⟩), .int .u64 150] 144)).alloc (.cells #[.pointer (some ⟨q, 0, none⟩)] 92))
    (by simp) (by simpa using ((ht.alloc _).alloc _).cell 0) (((ht.alloc _).alloc _).free 0)
  clear ha ht hW1
  go_enter Tryd.func76, Tryd.ntmps76
  go_wp2
  refine wp_loop_rounds 1 ?_
  rw [rounds_succ]
  go_wp2
  go_ret
  exact ⟨rfl, rfl⟩

/-- Package errors' variable holds its handle. -/
def Hd (w : World) : Prop := w.cell? ⟨1, 0, none⟩ = some errHandle
theorem Hd.pos {w : World} (h : Hd w) : 1 < w.heap.size := by
  rcases Nat.lt_or_ge 1 w.heap.size with h1 | h1
  · exact h1
  · unfold Hd World.cell? at h
    simp [Array.getElem?_eq_none h1] at h
theorem Hd.keep {B : Nat} {w v : World} (h : Hd w) (hb : Below B w v) (hB : 1 < B) : Hd v := (hb.cell (p := ⟨1, 0, none⟩) hB).trans h
theorem Hd.on {w v : World} (h : Hd w) (hb : Below w.heap.size w v) : Hd v := h.keep hb h.pos
theorem Hd.alloc {w : World} (h : Hd w) (o : Obj) : Hd (w.alloc o) := h.on ((Below.refl w.heap.size w).alloc (Nat.le_refl _) o)

set_option maxHeartbeats 4000000 in
theorem As_fault (q t : Nat) (w : World) (hg : Hd w) (ht : At w t 92 #[.pointer none]) :
    Calls Tryd.prog 42 #[.iface 92 (.pointer (some ⟨q, 0, none⟩)), .iface 99 (.pointer (some ⟨t, 0, none⟩))] w fun e w' =>
      e = .returned (.bool true) ∧ At w' t 92 #[.pointer (some ⟨q, 0, none⟩)] ∧ Two t t w w' := by
  have h42 := @run_callFunc_extern Tryd.prog 73 _ (fun args => ReflectliteValue.unpack (args.getD 0 (.tuple #[]))) Tryd.func73 (by kernel_rfl) (by kernel_rfl) (by kernel_rfl) (by kernel_rfl)
  have h43 := @run_callFunc_extern Tryd.prog 74 _ (ReflectliteValue.methodAny (ReflectliteValue.valueError "reflectlite.Value.Type" 0) (fun t _ _ _ => ReflectliteType.toType t)) Tryd.func74 (by kernel_rfl) (by kernel_rfl) (by kernel_rfl) (by kernel_rfl)
  have h44 := @run_callFunc_extern Tryd.prog 75 _ (ReflectliteValue.method (ReflectliteValue.valueError "reflectlite.Value.IsNil" 0) ReflectliteValue.isNil) Tryd.func75 (by kernel_rfl) (by kernel_rfl) (by kernel_rfl) (by kernel_rfl)
  have h71 := @run_callFunc_extern Tryd.prog 112 _ (ReflectliteType.abiMethod fun t => do pure (.int .u8 (← Rtype.kind t))) Tryd.func112 (by kernel_rfl) (by kernel_rfl) (by kernel_rfl) (by kernel_rfl)
  have h84 := @run_callFunc_extern Tryd.prog 124 _ (ReflectliteType.method ReflectliteType.elem) Tryd.func124 (by kernel_rfl) (by kernel_rfl) (by kernel_rfl) (by kernel_rfl)
  have h85 := @run_callFunc_extern Tryd.prog 125 _ (ReflectliteType.relation "Implements" ReflectliteType.implements_) Tryd.func125 (by kernel_rfl) (by kernel_rfl) (by kernel_rfl) (by kernel_rfl)
  have v90 := valueOf90
  have ty90 := type90
  have mK := methodKind
  have mE := methodElem
  have mI := methodImplements
  have k90 := kind90
  have k88 := kind88
  have e90 := elem90
  have i88 := implements88
  have hA : At ((w.alloc (.cells #[.pointer (some ⟨t, 0, none⟩)] 99)).alloc (.cells #[hnd 99, .pointer (some ⟨w.heap.size, 0, none⟩), .int .u64 150] 144)) w.heap.size 99 #[.pointer (some ⟨t, 0, none⟩)] := (At.new _ _ _).alloc _
  have hT := (ht.alloc (.cells #[.pointer (some ⟨t, 0, none⟩)] 99)).alloc (.cells #[hnd 99, .pointer (some ⟨w.heap.size, 0, none⟩), .int .u64 150] 144)
  have n8 := isNil90 ⟨w.heap.size, 0, none⟩ ⟨t, 0, none⟩ ((w.alloc (.cells #[.pointer (some ⟨t, 0, none⟩)] 99)).alloc (.cells #[hnd 99, .pointer (some ⟨w.heap.size, 0, none⟩), .int .u64 150] 144)) (by simp)
  have hg2 : ((w.alloc (.cells #[.pointer (some ⟨t, 0, none⟩)] 99)).alloc (.cells #[hnd 99, .pointer (some ⟨w.heap.size, 0, none⟩), .int .u64 150] 144)).cell? ⟨1, 0, none⟩ = some errHandle := (hg.alloc _).alloc _
  unfold errHandle at hg2
  have hpos := hg.pos
  have htl := ht.inside
  have hAT := Lib.hid (And.intro hA hT)
  have ht' := Lib.hid ht
  clear hA hT ht
  have hg' := Lib.hid hg
  clear hg
  go_enter Tryd.func42, Tryd.ntmps42
  go_wp2_with fail
  refine (as_fault q w.heap.size t _ _ hAT.out.1 hAT.out.2).mono ?_
  rintro e w2 ⟨rfl, rfl⟩
  go_wp2
  go_ret
  refine ⟨rfl, ?_, ?_⟩
  · have := (((((ht'.out.put 0 (.pointer (some ⟨q, 0, none⟩))).alloc (.cells #[.pointer (some ⟨t, 0, none⟩)] 99)).alloc (.cells #[hnd 99, .pointer (some ⟨w.heap.size, 0, none⟩), .int .u64 150] 144)).alloc (.cells #[hnd 99, .pointer (some ⟨w.heap.size, 0, none⟩), .int .u64 150] 144)).alloc (.cells #[.pointer (some ⟨q, 0, none⟩)] 92))
    simpa using this
  · have h1 : Two t t w (w.setCell ⟨t, 0, none⟩ (.pointer (some ⟨q, 0, none⟩))) := .setG _ _ _ _ _
    generalize w.setCell ⟨t, 0, none⟩ (.pointer (some ⟨q, 0, none⟩)) = wx at *
    exact h1.trans (.of_below (((((Below.refl _ _).alloc (Nat.le_refl _) _).alloc (by simp) _).alloc (by simp; omega) _).alloc (by simp; omega) _))

/-- What is told of an error of package scene. -/
theorem Told_any (u : Value) (f : Int × Int × Int) (w : World) (hg : Hd w) (h : ErrAt w u f) (hz : f.1 = 0 → f = (0, 0, 0)) :
    Calls Tryd.prog 20 #[u] w fun e w' => e = .returned (.agg #[.int .i64 f.1, .int .i64 f.2.1, .int .i64 f.2.2]) ∧ Below w.heap.size w w' := by
  rcases h with ⟨h1, rfl⟩ | ⟨h1, q, rfl, hq⟩
  · obtain rfl := hz h1
    clear hz h1
    go_enter Tryd.func20, Tryd.ntmps20
    go_wp2_with fail
    refine (As_nil _ _).mono ?_
    rintro e w2 ⟨rfl, rfl⟩
    go_wp2_with fail
    refine (As_nil _ _).mono ?_
    rintro e w2 ⟨rfl, rfl⟩
    go_wp2
    exact bodyPost_ret (res_flt rfl rfl (((At.new _ _ _).alloc _).alloc _)) rfl ⟨rfl, (((Below.refl _ _).alloc (Nat.le_refl _) _).alloc (by simp) _).alloc (by simp; omega) _⟩
  · obtain ⟨c, p, i⟩ := f
    simp only at h1 hq ⊢
    clear hz h1
    have hR : At ((w.alloc (.cells #[.int .i64 0, .int .i64 0, .int .i64 0] 55)).alloc (.cells #[.pointer none] 92)) w.heap.size 55 #[.int .i64 0, .int .i64 0, .int .i64 0] := (At.new _ _ _).alloc _
    have hT : At ((w.alloc (.cells #[.int .i64 0, .int .i64 0, .int .i64 0] 55)).alloc (.cells #[.pointer none] 92)) (w.heap.size + 1) 92 #[.pointer none] := At.new_ _ _ _ (by simp)
    have hQ := (hq.alloc (.cells #[.int .i64 0, .int .i64 0, .int .i64 0] 55)).alloc (.cells #[.pointer none] 92)
    have hB : Below w.heap.size w ((w.alloc (.cells #[.int .i64 0, .int .i64 0, .int .i64 0] 55)).alloc (.cells #[.pointer none] 92)) := ((Below.refl _ _).alloc (Nat.le_refl _) _).alloc (by simp) _
    have hG := (hg.alloc (.cells #[.int .i64 0, .int .i64 0, .int .i64 0] 55)).alloc (.cells #[.pointer none] 92)
    have hql := hq.inside
    have hG' := Lib.hid hG
    clear hg hq hG
    go_enter Tryd.func20, Tryd.ntmps20
    go_wp2_with fail
    refine (As_fault q (w.heap.size + 1) _ hG'.out hT).mono ?_
    rintro e w2 ⟨rfl, hT2, hU⟩
    have hR2 := At.two hR hU (by omega) (by omega)
    have hQ2 := At.two hQ hU (by omega) (by omega)
    have hB2 := hB.trans (hU.below (Nat.le_succ _) (Nat.le_succ _) hB.size)
    have t0 := hT2.cell 0
    have q0 := hQ2.cell 0
    have q1 := hQ2.cell 1
    have q2 := hQ2.cell 2
    have r0 := hR2.cell 0
    have r1 := hR2.cell 1
    have r2 := hR2.cell 2
    have f0 := hR2.free 0
    have f1 := hR2.free 1
    have f2 := hR2.free 2
    simp at t0 q0 q1 q2 r0 r1 r2
    clear hR hT hQ hB hU
    go_wp2
    exact bodyPost_ret (res_flt rfl rfl (put3f hR2)) rfl ⟨rfl, ((hB2.setCell (by simp) _).setCell (by simp) _).setCell (by simp) _⟩

end Go.Proofs.YteefkijmodcijaaDoor.Feas

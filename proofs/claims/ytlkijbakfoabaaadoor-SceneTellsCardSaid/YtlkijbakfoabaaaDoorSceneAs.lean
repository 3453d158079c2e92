/-
  errors.As of package scene's fault, and of no error, at a target that is a pointer to a pointer to api.Fault, or to api.Errno.
-/
import Derived.Test.YtlkijbakfoabaaaDoorSceneCheck
import Derived.LaidEql
import Derived.Stop.Asserts
import Derived.RowKitTokens
namespace Go.Proofs.YtlkijbakfoabaaaDoor.Scene
open Go.RowKit Go.Extern.Stop Go.Stop Go.Extern Go.Proofs.YtlkijbakfoabaaaDoor.Mem
set_option linter.unusedVariables false

/-- The handle that package errors keeps: the type 'error'. -/
def errHandle : Value := .iface 116 (.agg #[.pointer (some ⟨1, 39, none⟩)])

theorem As_nil (t : Value) (w : World) :
    Calls Tryd.prog 32 #[.nilIface, t] w fun e w' => e = .returned (.bool false) ∧ w = w' := by
  go_enter Tryd.func32, Tryd.ntmps32
  go_wp2
  go_ret
  exact ⟨rfl, rfl⟩

abbrev hnd (t : TypeId) : Value := .pointer (some ⟨1, t, none⟩)
abbrev rty (t : TypeId) : Value := .iface 116 (.agg #[hnd t])

theorem valueOf90 (t : Addr) (w : World) : (ReflectliteValue.unpack (.iface 90 (.pointer (some t)))).run Tryd.prog w
    = .ok (.agg #[hnd 90, .pointer (some ⟨w.heap.size, 0, none⟩), .int .u64 150]) (w.alloc (.cells #[.pointer (some t)] 90)) := by kernel_rfl
theorem type90 (a : Addr) (w : World) : (ReflectliteValue.methodAny (ReflectliteValue.valueError "reflectlite.Value.Type" 0) (fun t _ _ _ => ReflectliteType.toType t) #[.agg #[hnd 90, .pointer (some a), .int .u64 150]]).run Tryd.prog w
    = .ok (rty 90) w := by kernel_rfl
theorem methodKind (h : Value) (w : World) : (Go.method 264 116 (.agg #[h]) "Kind").run Tryd.prog w = .ok (71, h) w := by kernel_rfl
theorem methodElem (h : Value) (w : World) : (Go.method 264 116 (.agg #[h]) "Elem").run Tryd.prog w = .ok (84, .agg #[h]) w := by kernel_rfl
theorem methodImplements (h : Value) (w : World) : (Go.method 264 116 (.agg #[h]) "Implements").run Tryd.prog w = .ok (85, .agg #[h]) w := by kernel_rfl
theorem methodAssignableTo (h : Value) (w : World) : (Go.method 264 116 (.agg #[h]) "AssignableTo").run Tryd.prog w = .ok (82, .agg #[h]) w := by kernel_rfl
theorem methodUnwrap (p : Value) (w : World) : (Go.method 264 79 p "Unwrap").run Tryd.prog w = .ok (76, p) w := by kernel_rfl
theorem kind90 (w : World) : ((ReflectliteType.abiMethod fun t => (fun a : Nat => Value.int IntKind.u8 (a : Int)) <$> Rtype.kind t) #[hnd 90]).run Tryd.prog w = .ok (.int .u8 22) w := by kernel_rfl
theorem kind88 (w : World) : ((ReflectliteType.abiMethod fun t => (fun a : Nat => Value.int IntKind.u8 (a : Int)) <$> Rtype.kind t) #[hnd 88]).run Tryd.prog w = .ok (.int .u8 22) w := by kernel_rfl
theorem elem90 (w : World) : (ReflectliteType.method ReflectliteType.elem #[.agg #[hnd 90]]).run Tryd.prog w = .ok (rty 88) w := by kernel_rfl
theorem implements88 (w : World) : (ReflectliteType.relation "Implements" ReflectliteType.implements_ #[.agg #[hnd 88], rty 39]).run Tryd.prog w = .ok (.bool true) w := by kernel_rfl
theorem typeOf79 (v : Value) (w : World) : (ReflectliteType.typeOf #[.iface 79 v]).run Tryd.prog w = .ok (rty 79) w := by kernel_rfl
theorem typeOf88 (v : Value) (w : World) : (ReflectliteType.typeOf #[.iface 88 v]).run Tryd.prog w = .ok (rty 88) w := by kernel_rfl
theorem assignable79 (w : World) : (ReflectliteType.relation "AssignableTo" ReflectliteType.assignableTo #[.agg #[hnd 79], rty 88]).run Tryd.prog w = .ok (.bool false) w := by kernel_rfl
theorem assignable88 (w : World) : (ReflectliteType.relation "AssignableTo" ReflectliteType.assignableTo #[.agg #[hnd 88], rty 88]).run Tryd.prog w = .ok (.bool true) w := by kernel_rfl
theorem valueOf88 (e : Addr) (w : World) : (ReflectliteValue.unpack (.iface 88 (.pointer (some e)))).run Tryd.prog w
    = .ok (.agg #[hnd 88, .pointer (some ⟨w.heap.size, 0, none⟩), .int .u64 150]) (w.alloc (.cells #[.pointer (some e)] 88)) := by kernel_rfl
theorem noAs (v : Value) (w : World) : (Instr.typeAssert (.iface 79 v) 39 121 true).run Tryd.prog w = .ok (.tuple #[.nilIface, .bool false]) w :=
  run_typeAssert_lacksB Tryd.underlying121 (by kernel_rfl) (by kernel_rfl) v _ w
theorem hasUnwrap (v : Value) (w : World) : (Instr.typeAssert (.iface 79 v) 39 124 true).run Tryd.prog w = .ok (.tuple #[.iface 79 v, .bool true]) w :=
  run_typeAssert_hasB Tryd.underlying124 (by kernel_rfl) v _ w

theorem arm1 {α : Type} (v : Value) (f : Value → α) (g : Array Value → α) : ReflectliteValue.method.match_2 (motive := fun _ => α) #[v] f g = f v := rfl
theorem arm2 {α : Type} (v x : Value) (f : Value → Value → α) (g : Array Value → α) : ReflectliteValue.set.match_3 (motive := fun _ => α) #[v, x] f g = f v x := rfl

/-! The entries that read or write memory. -/
theorem parts90 (a : Addr) (w : World) : (ReflectliteValue.parts (.agg #[hnd 90, .pointer (some a), .int .u64 150])).run Tryd.prog w = .ok (some (90, a, 150)) w := by kernel_rfl
theorem isNil90 (a p : Addr) (W : World) (ha : W.cell? a = some (.pointer (some p))) :
    (ReflectliteValue.method (ReflectliteValue.valueError "reflectlite.Value.IsNil" 0) ReflectliteValue.isNil #[.agg #[hnd 90, .pointer (some a), .int .u64 150]]).run Tryd.prog W = .ok (.bool false) W := by
  unfold ReflectliteValue.method
  rw [arm1]
  simp only [Sem.run_bind, parts90, Result.andThen]
  simp [ReflectliteValue.isNil, loadVar, isAgg, underlying, Tryd.underlying90, ha, Result.andThen]
theorem elemOf90 (w : World) : (Rtype.elem? 90).run Tryd.prog w = .ok (some 88) w := by kernel_rfl
theorem mk88 (p : Addr) (w : World) : (ReflectliteValue.mk 88 p ReflectliteValue.flagAddr).run Tryd.prog w = .ok (.agg #[hnd 88, .pointer (some p), .int .u64 406]) w := by kernel_rfl
theorem elemV90 (a p : Addr) (W : World) (ha : W.cell? a = some (.pointer (some p))) :
    (ReflectliteValue.method (ReflectliteValue.valueError "reflectlite.Value.Elem" 0) ReflectliteValue.elem #[.agg #[hnd 90, .pointer (some a), .int .u64 150]]).run Tryd.prog W
      = .ok (.agg #[hnd 88, .pointer (some p), .int .u64 406]) W := by
  unfold ReflectliteValue.method
  rw [arm1]
  simp only [Sem.run_bind, parts90, Result.andThen]
  simp [ReflectliteValue.elem, loadVar, isAgg, underlying, Tryd.underlying90, ha, Result.andThen, elemOf90, mk88]
theorem parts88a (a : Addr) (w : World) : (ReflectliteValue.parts (.agg #[hnd 88, .pointer (some a), .int .u64 406])).run Tryd.prog w = .ok (some (88, a, 406)) w := by kernel_rfl
theorem parts88 (a : Addr) (w : World) : (ReflectliteValue.parts (.agg #[hnd 88, .pointer (some a), .int .u64 150])).run Tryd.prog w = .ok (some (88, a, 150)) w := by kernel_rfl
theorem direct88 (w : World) : (Rtype.directlyAssignable 88 88).run Tryd.prog w = .ok true w := by kernel_rfl
theorem set88 (ta b e : Addr) (old : Value) (W : World) (hb : W.cell? b = some (.pointer (some e))) (ht : W.cell? ta = some old) (hf : W.frozen? ta = false) :
    (ReflectliteValue.set #[.agg #[hnd 88, .pointer (some ta), .int .u64 406], .agg #[hnd 88, .pointer (some b), .int .u64 150]]).run Tryd.prog W
      = .ok (.tuple #[]) (W.setCell ta (.pointer (some e))) := by
  unfold ReflectliteValue.set
  rw [arm2]
  simp only [Sem.run_bind, parts88a, parts88, Result.andThen]
  simp [ReflectliteValue.flagAddr, loadVar, isAgg, underlying, Tryd.underlying88, hb, Result.andThen, direct88, storeVar, Value.cells, storeCells, Addr.add]
  rw [run_store Tryd.prog W ta _ _ (by rfl)]
  simp [ht, hf]

theorem Unwrap_any (q : Nat) (w : World) :
    Calls Tryd.prog 76 #[.pointer (some ⟨q, 0, none⟩)] w fun e w' => e = .returned (.iface 88 (.pointer (some ⟨q, 0, none⟩))) ∧ w = w' := by
  go_enter Tryd.func76, Tryd.ntmps76
  go_wp2
  go_ret
  exact ⟨rfl, rfl⟩

end Go.Proofs.YtlkijbakfoabaaaDoor.Scene

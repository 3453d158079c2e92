import Derived.Test.YteefkijmodcijaaDoorPkFeasLook
import Derived.LaidEql
import Derived.Stop.Asserts
import Derived.RowKitTokens
import Derived.Test.YteefkijmodcijaaDoorPkSched

/-
  The contracts of package feas's Check and Right.
-/
namespace Go.Proofs.YteefkijmodcijaaDoor.Feas
open Go.RowKit Go.Sort Go.Proofs.YteefkijmodcijaaDoor.Mem Go.Proofs.YteefkijmodcijaaDoor.Route Go.Proofs.YteefkijmodcijaaDoor.When Go.Proofs.YteefkijmodcijaaDoor.Load Go.Proofs.YteefkijmodcijaaDoor.Float Go.Proofs.YteefkijmodcijaaDoor.Tail Go.Proofs.YteefkijmodcijaaDoor.Place
set_option linter.unusedVariables false

/-- An error that tells a fault; none where its code is 0. -/
def ErrAt (w : World) (u : Value) (f : Int × Int × Int) : Prop :=
  (f.1 = 0 ∧ u = .nilIface) ∨ (f.1 ≠ 0 ∧ ∃ q, u = .iface 92 (.pointer (some ⟨q, 0, none⟩)) ∧ At w q 55 #[.int .i64 f.1, .int .i64 f.2.1, .int .i64 f.2.2])
theorem ErrAt.on {w w' : World} {u : Value} {f : Int × Int × Int} (h : ErrAt w u f) (hb : Below w.heap.size w w') : ErrAt w' u f := by
  rcases h with h | ⟨h, q, e, hq⟩
  · exact .inl h
  · exact .inr ⟨h, q, e, hq.keep hb hq.inside⟩
theorem fault_code {v : Vh} {l : List (Int × Int)} {t : List Rq} (h : (faultV v l t).1 = 0) : faultV v l t = (0, 0, 0) := by
  unfold faultV at h ⊢
  split
  · rfl
  · rename_i h1; rw [if_neg h1] at h; exact absurd h h1

set_option maxRecDepth 100000 in
set_option maxHeartbeats 4000000 in
theorem Check_any (v : Vh) (vl vt : Value) (l : List (Int × Int)) (t : List Rq) (hl : l.length ≤ 1000000) (hnum : Nums l) (w : World) (hL : Row w.heap.size w vl l) (hT : Rqs w.heap.size w vt t) :
    Calls Tryd.prog 18 #[.agg #[.int .i64 v.hx, .int .i64 v.hy, .int .i64 v.cp, .int .i64 v.st, .int .i64 v.en], vl, vt] w fun e w' => (∃ u, e = .returned u ∧ ErrAt w' u (faultV v l t)) ∧ Below w.heap.size w w' := by
  obtain ⟨w0, hw0⟩ : ∃ w0, w.alloc (.cells #[.int .i64 v.hx, .int .i64 v.hy, .int .i64 v.cp, .int .i64 v.st, .int .i64 v.en] 34) = w0 := ⟨_, rfl⟩
  obtain ⟨q, hq⟩ : ∃ q, w.heap.size = q := ⟨_, rfl⟩
  have hV : At w0 q 34 #[.int .i64 v.hx, .int .i64 v.hy, .int .i64 v.cp, .int .i64 v.st, .int .i64 v.en] := by rw [← hw0]; exact At.new_ _ _ _ hq.symm
  have hb0 : Below w.heap.size w w0 := by rw [← hw0]; exact (Below.refl _ _).alloc (Nat.le_refl _) _
  have hlk := lookN v vl vt 38 earlyP pb_early l t hl hnum w0 (hL.on hb0) (hT.on hb0) (PassC.ofN (Window.enters Tryd.func38 (by kernel_rfl) rfl) (early_pace _ _ _))
  have hfv : Hid (faultV v l t = if (lookV v l t earlyP).1 = 0 then (0, 0, 0) else lookV v l t earlyP) := Lib.hid rfl
  generalize lookV v l t earlyP = F at *
  obtain ⟨C, p, i⟩ := F
  simp only at hlk
  have v0 := hV.cell 0
  have v1 := hV.cell 1
  have v2 := hV.cell 2
  have v3 := hV.cell 3
  have v4 := hV.cell 4
  simp at v0 v1 v2 v3 v4
  have hw0' := Lib.hid hw0
  have hq' := Lib.hid hq
  obtain ⟨xl, Nl, capl, rfl, -⟩ := hL.opened
  obtain ⟨xt, Nt, capt, rfl, -⟩ := hT.opened
  clear hl hnum hL hT hw0 hq hV
  go_enter Tryd.func18, Tryd.ntmps18
  go_upto_region 1 with fail
  simp only [hq'.out]
  rw [hw0'.out]
  go_wp2_with fail
  refine hlk.mono ?_
  clear hlk v0 v1 v2 v3 v4
  rintro e w1 ⟨rfl, hb1⟩
  have hB1 := hb0.trans (hb1.mono hb0.size)
  have hF := At.new w1 55 #[.int .i64 C, .int .i64 p, .int .i64 i]
  have hB2 := hB1.alloc hB1.size (.cells #[.int .i64 C, .int .i64 p, .int .i64 i] 55)
  clear hb0 hb1 hB1
  cases hc0 : (C == 0)
  · have hc1 : (C != 0) = true := by simpa using hc0
    have hw : Hid (faultV v l t = (C, p, i)) := Lib.hid (by rw [hfv.out, if_neg (by simpa using hc0)])
    have hne : Hid (C ≠ 0) := Lib.hid (by simpa using hc0)
    have hF' := Lib.hid hF
    clear hF
    go_wp2
    go_ret
    exact ⟨⟨_, rfl, .inr ⟨by rw [hw.out]; exact hne.out, _, rfl, by rw [hw.out]; exact hF'.out⟩⟩, hB2⟩
  · have hc1 : (C != 0) = false := by simpa using hc0
    have hw : Hid (faultV v l t = (0, 0, 0)) := Lib.hid (by rw [hfv.out, if_pos (by simpa using hc0)])
    clear hF
    go_wp2
    go_ret
    exact ⟨⟨_, rfl, .inl ⟨by rw [hw.out], rfl⟩⟩, hB2⟩

theorem keptFn_any (x : Option Addr) (n cap : Nat) (w : World) :
    Calls Tryd.prog 32 #[.slice x n cap] w fun e w' => e = .returned (.func (.func 58) #[] #[.pointer (some ⟨w.heap.size, 0, none⟩)]) ∧ w.alloc (.cells #[.slice x n cap] 30) = w' := by
  go_enter Tryd.func32, Tryd.ntmps32
  go_wp2
  go_ret
  exact ⟨rfl, rfl⟩

theorem kept_pace {ts : List Tm} {b : Nat} {vs : Value} {w : World} (hb : At w b 30 #[vs]) (hts : Tms w.heap.size w vs ts) : PaceC 58 #[.pointer (some ⟨b, 0, none⟩)] ts.length w w.heap.size (keptP ts) :=
  fun w' hw k x m hk hok hm1 hm2 => kept_any ts k x m b w.heap.size vs w' (hb.keep hw hb.inside) (hts.keep hw (Nat.le_refl _)) hw.size hk hok hm1

theorem right_len {v : Vh} {l : List (Int × Int)} {t : List Rq} {ts : List Tm} (h : ts.length ≠ l.length) : rightB v l t ts = false := by unfold rightB; simp [h]
theorem right_look {v : Vh} {l : List (Int × Int)} {t : List Rq} {ts : List Tm} (h : ts.length = l.length) : rightB v l t ts = ((lookV v l t (keptP ts)).1 == 0) := by unfold rightB; rw [Bool.eq_iff_iff]; simp [h]

set_option maxRecDepth 100000 in
set_option maxHeartbeats 4000000 in
theorem Right_any (v : Vh) (vl vt vs : Value) (l : List (Int × Int)) (t : List Rq) (ts : List Tm) (hl : l.length ≤ 1000000) (hnum : Nums l) (w : World) (hL : Row w.heap.size w vl l) (hT : Rqs w.heap.size w vt t) (hS : Tms w.heap.size w vs ts) :
    Calls Tryd.prog 14 #[.agg #[.int .i64 v.hx, .int .i64 v.hy, .int .i64 v.cp, .int .i64 v.st, .int .i64 v.en], vl, vt, vs] w fun e w' => e = .returned (.bool (rightB v l t ts)) ∧ Below w.heap.size w w' := by
  obtain ⟨w0, hw0⟩ : ∃ w0, w.alloc (.cells #[.int .i64 v.hx, .int .i64 v.hy, .int .i64 v.cp, .int .i64 v.st, .int .i64 v.en] 34) = w0 := ⟨_, rfl⟩
  obtain ⟨q, hq⟩ : ∃ q, w.heap.size = q := ⟨_, rfl⟩
  have hV : At w0 q 34 #[.int .i64 v.hx, .int .i64 v.hy, .int .i64 v.cp, .int .i64 v.st, .int .i64 v.en] := by rw [← hw0]; exact At.new_ _ _ _ hq.symm
  have hb0 : Below w.heap.size w w0 := by rw [← hw0]; exact (Below.refl _ _).alloc (Nat.le_refl _) _
  obtain ⟨xl, Nl, capl, rfl, hNl, -, -, hlc2⟩ := hL.opened
  obtain ⟨xt, Nt, capt, rfl, -, -, htc2, -⟩ := hT.opened
  obtain ⟨xs, Ns, caps, rfl, hNs, hsc1, hsc2, -⟩ := hS.opened
  unfold maxLen at hlc2 hsc2
  have hNl' : Hid (l.length = Nl) := hNl
  have hNs' : Hid (ts.length = Ns) := Lib.hid hNs
  have hw0' := Lib.hid hw0
  have hq' := Lib.hid hq
  cases e0 : ((Ns : Int) == (Nl : Int))
  · have e1 : ((Ns : Int) != (Nl : Int)) = true := by simpa using e0
    have hF := Lib.hid (right_len (v := v) (l := l) (t := t) (ts := ts) (by rw [hNl'.out, hNs'.out]; intro e; rw [e] at e0; simp at e0))
    clear hl hnum hL hT hw0 hq hV hS hNl hNs
    go_enter Tryd.func14, Tryd.ntmps14
    go_wp2
    go_ret
    exact ⟨Route.ret_bool hF.out.symm, by rw [hw0'.out]; exact hb0⟩
  · have e1 : ((Ns : Int) != (Nl : Int)) = false := by simpa using e0
    have hlen : ts.length = l.length := by rw [hNl'.out, hNs'.out]; have : (Ns : Int) = Nl := by simpa using e0
                                           omega
    have hF := Lib.hid (right_look (v := v) (t := t) hlen)
    have hlk := fun (W : World) (b : Nat) (hW : Below w.heap.size w W) (hb : At W b 30 #[.slice xs Ns caps]) => lookC v (.slice xl Nl capl) (.slice xt Nt capt) (.pointer (some ⟨b, 0, none⟩)) 58 (keptP ts) (pb_kept ts) l t hl hnum W (hL.on hW) (hT.on hW)
      (PassC.ofC (Window.enters Tryd.func58 (by kernel_rfl) rfl) (by rw [← hlen]; exact kept_pace hb (RowB.on hS hW)))
    generalize lookV v l t (keptP ts) = F at *
    obtain ⟨C, p, i⟩ := F
    simp only at hlk hF
    have hlk' := Lib.hid hlk
    have hV' := Lib.hid hV
    have hqi := hV.inside
    clear hl hnum hL hT hw0 hq hV hS hNl hNs hlk hlen
    go_enter Tryd.func14, Tryd.ntmps14
    go_upto_region 3 with fail
    simp only [hq'.out]
    rw [hw0'.out]
    have v0 := hV'.out.cell 0
    have v1 := hV'.out.cell 1
    have v2 := hV'.out.cell 2
    have v3 := hV'.out.cell 3
    have v4 := hV'.out.cell 4
    simp at v0 v1 v2 v3 v4
    have hb0' := Lib.hid hb0
    have hfl : ∀ W, (Instr.field 55 (.agg #[.int .i64 C, .int .i64 p, .int .i64 i]) 0).run Tryd.prog W = .ok (.int .i64 C) W := fun _ => by kernel_rfl
    clear e0 e1 hb0
    go_region_with (first
      | (go_at_call 32; refine (keptFn_any _ _ _ _).mono ?_; rintro e w5 ⟨rfl, rfl⟩)
      | (go_at_call 31; refine (hlk'.out _ w0.heap.size (hb0'.out.alloc hb0'.out.size _).drew (At.new _ _ _).drew).mono ?_; rintro e w6 ⟨rfl, hb6⟩))
    all_goals
      have hBA := (hb0'.out.alloc hb0'.out.size (.cells #[.slice xs Ns caps] 30)).drew
      have hB9 := hBA.trans (hb6.mono hBA.size)
      clear hBA hb6
      go_wp2
      go_ret
      exact ⟨Route.ret_bool hF.out.symm, hB9⟩

end Go.Proofs.YteefkijmodcijaaDoor.Feas

/-
  errors.As of a fault, and of no error, at a target that is a pointer to a pointer to api.Fault, or to api.Errno; api.Told then tells it.
-/
namespace Go.Proofs.YteefkijmodcijaaDoor.Feas
open Go.RowKit Go.Extern.Stop Go.Stop Go.Extern Go.Proofs.YteefkijmodcijaaDoor.Mem
set_option linter.unusedVariables false

/-- The handle that package errors keeps: the type 'error'. -/
def errHandle : Value := .iface 168 (.agg #[.pointer (some ⟨2, 49, none⟩)])

theorem As_nil (t : Value) (w : World) :
    Calls Tryd.prog 42 #[.nilIface, t] w fun e w' => e = .returned (.bool false) ∧ w = w' := by
  go_enter Tryd.func42, Tryd.ntmps42
  go_wp2
  go_ret
  exact ⟨rfl, rfl⟩

abbrev hnd (t : TypeId) : Value := .pointer (some ⟨2, t, none⟩)
abbrev rty (t : TypeId) : Value := .iface 168 (.agg #[hnd t])

theorem valueOf90 (t : Addr) (w : World) : (ReflectliteValue.unpack (.iface 99 (.pointer (some t)))).run Tryd.prog w
    = .ok (.agg #[hnd 99, .pointer (some ⟨w.heap.size, 0, none⟩), .int .u64 150]) (w.alloc (.cells #[.pointer (some t)] 99)) := by kernel_rfl
theorem type90 (a : Addr) (w : World) : (ReflectliteValue.methodAny (ReflectliteValue.valueError "reflectlite.Value.Type" 0) (fun t _ _ _ => ReflectliteType.toType t) #[.agg #[hnd 99, .pointer (some a), .int .u64 150]]).run Tryd.prog w
    = .ok (rty 99) w := by kernel_rfl
theorem methodKind (h : Value) (w : World) : (Go.method 317 168 (.agg #[h]) "Kind").run Tryd.prog w = .ok (112, h) w := by kernel_rfl
theorem methodElem (h : Value) (w : World) : (Go.method 317 168 (.agg #[h]) "Elem").run Tryd.prog w = .ok (124, .agg #[h]) w := by kernel_rfl
theorem methodImplements (h : Value) (w : World) : (Go.method 317 168 (.agg #[h]) "Implements").run Tryd.prog w = .ok (125, .agg #[h]) w := by kernel_rfl
theorem methodAssignableTo (h : Value) (w : World) : (Go.method 317 168 (.agg #[h]) "AssignableTo").run Tryd.prog w = .ok (122, .agg #[h]) w := by kernel_rfl
theorem kind90 (w : World) : ((ReflectliteType.abiMethod fun t => (fun a : Nat => Value.int IntKind.u8 (a : Int)) <$> Rtype.kind t) #[hnd 99]).run Tryd.prog w = .ok (.int .u8 22) w := by kernel_rfl
theorem kind88 (w : World) : ((ReflectliteType.abiMethod fun t => (fun a : Nat => Value.int IntKind.u8 (a : Int)) <$> Rtype.kind t) #[hnd 92]).run Tryd.prog w = .ok (.int .u8 22) w := by kernel_rfl
theorem elem90 (w : World) : (ReflectliteType.method ReflectliteType.elem #[.agg #[hnd 99]]).run Tryd.prog w = .ok (rty 92) w := by kernel_rfl
theorem implements88 (w : World) : (ReflectliteType.relation "Implements" ReflectliteType.implements_ #[.agg #[hnd 92], rty 49]).run Tryd.prog w = .ok (.bool true) w := by kernel_rfl
theorem typeOf88 (v : Value) (w : World) : (ReflectliteType.typeOf #[.iface 92 v]).run Tryd.prog w = .ok (rty 92) w := by kernel_rfl
theorem assignable88 (w : World) : (ReflectliteType.relation "AssignableTo" ReflectliteType.assignableTo #[.agg #[hnd 92], rty 92]).run Tryd.prog w = .ok (.bool true) w := by kernel_rfl
theorem valueOf88 (e : Addr) (w : World) : (ReflectliteValue.unpack (.iface 92 (.pointer (some e)))).run Tryd.prog w
    = .ok (.agg #[hnd 92, .pointer (some ⟨w.heap.size, 0, none⟩), .int .u64 150]) (w.alloc (.cells #[.pointer (some e)] 92)) := by kernel_rfl
theorem arm1 {α : Type} (v : Value) (f : Value → α) (g : Array Value → α) : ReflectliteValue.method.match_2 (motive := fun _ => α) #[v] f g = f v := rfl
theorem arm2 {α : Type} (v x : Value) (f : Value → Value → α) (g : Array Value → α) : ReflectliteValue.set.match_3 (motive := fun _ => α) #[v, x] f g = f v x := rfl

/-! The entries that read or write memory. -/
theorem parts90 (a : Addr) (w : World) : (ReflectliteValue.parts (.agg #[hnd 99, .pointer (some a), .int .u64 150])).run Tryd.prog w = .ok (some (99, a, 150)) w := by kernel_rfl
theorem isNil90 (a p : Addr) (W : World) (ha : W.cell? a = some (.pointer (some p))) :
    (ReflectliteValue.method (ReflectliteValue.valueError "reflectlite.Value.IsNil" 0) ReflectliteValue.isNil #[.agg #[hnd 99, .pointer (some a), .int .u64 150]]).run Tryd.prog W = .ok (.bool false) W := by
  unfold ReflectliteValue.method
  rw [arm1]
  simp only [Sem.run_bind, parts90, Result.andThen]
  simp [ReflectliteValue.isNil, loadVar, isAgg, underlying, Tryd.underlying99, ha, Result.andThen]
theorem elemOf90 (w : World) : (Rtype.elem? 99).run Tryd.prog w = .ok (some 92) w := by kernel_rfl
theorem mk88 (p : Addr) (w : World) : (ReflectliteValue.mk 92 p ReflectliteValue.flagAddr).run Tryd.prog w = .ok (.agg #[hnd 92, .pointer (some p), .int .u64 406]) w := by kernel_rfl
theorem elemV90 (a p : Addr) (W : World) (ha : W.cell? a = some (.pointer (some p))) :
    (ReflectliteValue.method (ReflectliteValue.valueError "reflectlite.Value.Elem" 0) ReflectliteValue.elem #[.agg #[hnd 99, .pointer (some a), .int .u64 150]]).run Tryd.prog W
      = .ok (.agg #[hnd 92, .pointer (some p), .int .u64 406]) W := by
  unfold ReflectliteValue.method
  rw [arm1]
  simp only [Sem.run_bind, parts90, Result.andThen]
  simp [ReflectliteValue.elem, loadVar, isAgg, underlying, Tryd.underlying99, ha, Result.andThen, elemOf90, mk88]
theorem parts88a (a : Addr) (w : World) : (ReflectliteValue.parts (.agg #[hnd 92, .pointer (some a), .int .u64 406])).run Tryd.prog w = .ok (some (92, a, 406)) w := by kernel_rfl
theorem parts88 (a : Addr) (w : World) : (ReflectliteValue.parts (.agg #[hnd 92, .pointer (some a), .int .u64 150])).run Tryd.prog w = .ok (some (92, a, 150)) w := by kernel_rfl
theorem direct88 (w : World) : (Rtype.directlyAssignable 92 92).run Tryd.prog w = .ok true w := by kernel_rfl
theorem set88 (ta b e : Addr) (old : Value) (W : World) (hb : W.cell? b = some (.pointer (some e))) (ht : W.cell? ta = some old) (hf : W.frozen? ta = false) :
    (ReflectliteValue.set #[.agg #[hnd 92, .pointer (some ta), .int .u64 406], .agg #[hnd 92, .pointer (some b), .int .u64 150]]).run Tryd.prog W
      = .ok (.tuple #[]) (W.setCell ta (.pointer (some e))) := by
  unfold ReflectliteValue.set
  rw [arm2]
  simp only [Sem.run_bind, parts88a, parts88, Result.andThen]
  simp [ReflectliteValue.flagAddr, loadVar, isAgg, underlying, Tryd.underlying92, hb, Result.andThen, direct88, storeVar, Value.cells, storeCells, Addr.add]
  rw [run_store Tryd.prog W ta _ _ (by rfl)]
  simp [ht, hf]

set_option maxHeartbeats 4000000 in
theorem as_fault (q a t : Nat) (tgt : Value) (W : World) (ha : At W a 99 #[.pointer (some ⟨t, 0, none⟩)]) (ht : At W t 92 #[.pointer none]) :
    Calls Tryd.prog 76 #[.iface 92 (.pointer (some ⟨q, 0, none⟩)), tgt, .agg #[hnd 99, .pointer (some ⟨a, 0, none⟩), .int .u64 150], rty 92] W fun e w' =>
      e = .returned (.bool true) ∧ ((W.setCell ⟨t, 0, none⟩ (.pointer (some ⟨q, 0, none⟩))).alloc (.cells #[hnd 99, .pointer (some ⟨a, 0, none⟩), .int .u64 150] 144)).alloc (.cells #[.pointer (some ⟨q, 0, none⟩)] 92) = w' := by
  have h42 := @run_callFunc_extern Tryd.prog 73 _ (fun args => ReflectliteValue.unpack (args.getD 0 (.tuple #[]))) Tryd.func73 (by kernel_rfl) (by kernel_rfl) (by kernel_rfl) (by kernel_rfl)
  have h49 := @run_callFunc_extern Tryd.prog 89 _ ReflectliteType.typeOf Tryd.func89 (by kernel_rfl) (by kernel_rfl) (by kernel_rfl) (by kernel_rfl)
  have h82 := @run_callFunc_extern Tryd.prog 122 _ (ReflectliteType.relation "AssignableTo" ReflectliteType.assignableTo) Tryd.func122 (by kernel_rfl) (by kernel_rfl) (by kernel_rfl) (by kernel_rfl)
  have h50 := @run_callFunc_extern Tryd.prog 90 _ (ReflectliteValue.method (ReflectliteValue.valueError "reflectlite.Value.Elem" 0) ReflectliteValue.elem) Tryd.func90 (by kernel_rfl) (by kernel_rfl) (by kernel_rfl) (by kernel_rfl)
  have h51 := @run_callFunc_extern Tryd.prog 91 _ ReflectliteValue.set Tryd.func91 (by kernel_rfl) (by kernel_rfl) (by kernel_rfl) (by kernel_rfl)
  have mA := methodAssignableTo
  have t88 := typeOf88
  have a88 := assignable88
  have v88 := valueOf88
  have hal := ha.inside
  have htl := ht.inside
  have hW1 : (W.alloc (.cells #[hnd 99, .pointer (some ⟨a, 0, none⟩), .int .u64 150] 144)).heap.size = W.heap.size + 1 := by simp
  have el := elemV90 ⟨a, 0, none⟩ ⟨t, 0, none⟩ (W.alloc (.cells #[hnd 99, .pointer (some ⟨a, 0, none⟩), .int .u64 150] 144)) (by simpa using (ha.alloc _).cell 0)
  have st := set88 ⟨t, 0, none⟩ ⟨W.heap.size + 1, 0, none⟩ ⟨q, 0, none⟩ (.pointer none) ((W.alloc (.cells #[hnd 99, .pointer (some ⟨a, 0, none⟩), .int .u64 150] 144)).alloc (.cells #[.pointer (some ⟨q, 0, none⟩)] 92))
    (by simp) (by simpa using ((ht.alloc _).alloc _).cell 0) (((ht.alloc _).alloc _).free 0)
  clear ha ht hW1
  go_enter Tryd.func76, Tryd.ntmps76
  go_wp2
  refine wp_loop_rounds 1 ?_
  rw [rounds_succ]
  go_wp2
  go_ret
  exact ⟨rfl, rfl⟩

/-- Package errors' variable holds its handle. -/
def Hd (w : World) : Prop := w.cell? ⟨1, 0, none⟩ = some errHandle
theorem Hd.pos {w : World} (h : Hd w) : 1 < w.heap.size := by
  rcases Nat.lt_or_ge 1 w.heap.size with h1 | h1
  · exact h1
  · unfold Hd World.cell? at h
    simp [Array.getElem?_eq_none h1] at h
theorem Hd.keep {B : Nat} {w v : World} (h : Hd w) (hb : Below B w v) (hB : 1 < B) : Hd v := (hb.cell (p := ⟨1, 0, none⟩) hB).trans h
theorem Hd.on {w v : World} (h : Hd w) (hb : Below w.heap.size w v) : Hd v := h.keep hb h.pos
theorem Hd.alloc {w : World} (h : Hd w) (o : Obj) : Hd (w.alloc o) := h.on ((Below.refl w.heap.size w).alloc (Nat.le_refl _) o)

set_option maxHeartbeats 4000000 in
theorem As_fault (q t : Nat) (w : World) (hg : Hd w) (ht : At w t 92 #[.pointer none]) :
    Calls Tryd.prog 42 #[.iface 92 (.pointer (some ⟨q, 0, none⟩)), .iface 99 (.pointer (some ⟨t, 0, none⟩))] w fun e w' =>
      e = .returned (.bool true) ∧ At w' t 92 #[.pointer (some ⟨q, 0, none⟩)] ∧ Two t t w w' := by
  have h42 := @run_callFunc_extern Tryd.prog 73 _ (fun args => ReflectliteValue.unpack (args.getD 0 (.tuple #[]))) Tryd.func73 (by kernel_rfl) (by kernel_rfl) (by kernel_rfl) (by kernel_rfl)
  have h43 := @run_callFunc_extern Tryd.prog 74 _ (ReflectliteValue.methodAny (ReflectliteValue.valueError "reflectlite.Value.Type" 0) (fun t _ _ _ => ReflectliteType.toType t)) Tryd.func74 (by kernel_rfl) (by kernel_rfl) (by kernel_rfl) (by kernel_rfl)
  have h44 := @run_callFunc_extern Tryd.prog 75 _ (ReflectliteValue.method (ReflectliteValue.valueError "reflectlite.Value.IsNil" 0) ReflectliteValue.isNil) Tryd.func75 (by kernel_rfl) (by kernel_rfl) (by kernel_rfl) (by kernel_rfl)
  have h71 := @run_callFunc_extern Tryd.prog 112 _ (ReflectliteType.abiMethod fun t => do pure (.int .u8 (← Rtype.kind t))) Tryd.func112 (by kernel_rfl) (by kernel_rfl) (by kernel_rfl) (by kernel_rfl)
  have h84 := @run_callFunc_extern Tryd.prog 124 _ (ReflectliteType.method ReflectliteType.elem) Tryd.func124 (by kernel_rfl) (by kernel_rfl) (by kernel_rfl) (by kernel_rfl)
  have h85 := @run_callFunc_extern Tryd.prog 125 _ (ReflectliteType.relation "Implements" ReflectliteType.implements_) Tryd.func125 (by kernel_rfl) (by kernel_rfl) (by kernel_rfl) (by kernel_rfl)
  have v90 := valueOf90
  have ty90 := type90
  have mK := methodKind
  have mE := methodElem
  have mI := methodImplements
  have k90 := kind90
  have k88 := kind88
  have e90 := elem90
  have i88 := implements88
  have hA : At ((w.alloc (.cells #[.pointer (some ⟨t, 0, none⟩)] 99)).alloc (.cells #[hnd 99, .pointer (some ⟨w.heap.size, 0, none⟩), .int .u64 150] 144)) w.heap.size 99 #[.pointer (some ⟨t, 0, none⟩)] := (At.new _ _ _).alloc _
  have hT := (ht.alloc (.cells #[.pointer (some ⟨t, 0, none⟩)] 99)).alloc (.cells #[hnd 99, .pointer (some ⟨w.heap.size, 0, none⟩), .int .u64 150] 144)
  have n8 := isNil90 ⟨w.heap.size, 0, none⟩ ⟨t, 0, none⟩ ((w.alloc (.cells #[.pointer (some ⟨t, 0, none⟩)] 99)).alloc (.cells #[hnd 99, .pointer (some ⟨w.heap.size, 0, none⟩), .int .u64 150] 144)) (by simp)
  have hg2 : ((w.alloc (.cells #[.pointer (some ⟨t, 0, none⟩)] 99)).alloc (.cells #[hnd 99, .pointer (some ⟨w.heap.size, 0, none⟩), .int .u64 150] 144)).cell? ⟨1, 0, none⟩ = some errHandle := (hg.alloc _).alloc _
  unfold errHandle at hg2
  have hpos := hg.pos
  have htl := ht.inside
  have hAT := Lib.hid (And.intro hA hT)
  have ht' := Lib.hid ht
  clear hA hT ht
  have hg' := Lib.hid hg
  clear hg
  go_enter Tryd.func42, Tryd.ntmps42
  go_wp2_with fail
  refine (as_fault q w.heap.size t _ _ hAT.out.1 hAT.out.2).mono ?_
  rintro e w2 ⟨rfl, rfl⟩
  go_wp2
  go_ret
  refine ⟨rfl, ?_, ?_⟩
  · have := (((((ht'.out.put 0 (.pointer (some ⟨q, 0, none⟩))).alloc (.cells #[.pointer (some ⟨t, 0, none⟩)] 99)).alloc (.cells #[hnd 99, .pointer (some ⟨w.heap.size, 0, none⟩), .int .u64 150] 144)).alloc (.cells #[hnd 99, .pointer (some ⟨w.heap.size, 0, none⟩), .int .u64 150] 144)).alloc (.cells #[.pointer (some ⟨q, 0, none⟩)] 92))
    simpa using this
  · have h1 : Two t t w (w.setCell ⟨t, 0, none⟩ (.pointer (some ⟨q, 0, none⟩))) := .setG _ _ _ _ _
    generalize w.setCell ⟨t, 0, none⟩ (.pointer (some ⟨q, 0, none⟩)) = wx at *
    exact h1.trans (.of_below (((((Below.refl _ _).alloc (Nat.le_refl _) _).alloc (by simp) _).alloc (by simp; omega) _).alloc (by simp; omega) _))

/-- What is told of an error of package scene. -/
theorem Told_any (u : Value) (f : Int × Int × Int) (w : World) (hg : Hd w) (h : ErrAt w u f) (hz : f.1 = 0 → f = (0, 0, 0)) :
    Calls Tryd.prog 20 #[u] w fun e w' => e = .returned (.agg #[.int .i64 f.1, .int .i64 f.2.1, .int .i64 f.2.2]) ∧ Below w.heap.size w w' := by
  rcases h with ⟨h1, rfl⟩ | ⟨h1, q, rfl, hq⟩
  · obtain rfl := hz h1
    clear hz h1
    go_enter Tryd.func20, Tryd.ntmps20
    go_wp2_with fail
    refine (As_nil _ _).mono ?_
    rintro e w2 ⟨rfl, rfl⟩
    go_wp2_with fail
    refine (As_nil _ _).mono ?_
    rintro e w2 ⟨rfl, rfl⟩
    go_wp2
    exact bodyPost_ret (res_flt rfl rfl (((At.new _ _ _).alloc _).alloc _)) rfl ⟨rfl, (((Below.refl _ _).alloc (Nat.le_refl _) _).alloc (by simp) _).alloc (by simp; omega) _⟩
  · obtain ⟨c, p, i⟩ := f
    simp only at h1 hq ⊢
    clear hz h1
    have hR : At ((w.alloc (.cells #[.int .i64 0, .int .i64 0, .int .i64 0] 55)).alloc (.cells #[.pointer none] 92)) w.heap.size 55 #[.int .i64 0, .int .i64 0, .int .i64 0] := (At.new _ _ _).alloc _
    have hT : At ((w.alloc (.cells #[.int .i64 0, .int .i64 0, .int .i64 0] 55)).alloc (.cells #[.pointer none] 92)) (w.heap.size + 1) 92 #[.pointer none] := At.new_ _ _ _ (by simp)
    have hQ := (hq.alloc (.cells #[.int .i64 0, .int .i64 0, .int .i64 0] 55)).alloc (.cells #[.pointer none] 92)
    have hB : Below w.heap.size w ((w.alloc (.cells #[.int .i64 0, .int .i64 0, .int .i64 0] 55)).alloc (.cells #[.pointer none] 92)) := ((Below.refl _ _).alloc (Nat.le_refl _) _).alloc (by simp) _
    have hG := (hg.alloc (.cells #[.int .i64 0, .int .i64 0, .int .i64 0] 55)).alloc (.cells #[.pointer none] 92)
    have hql := hq.inside
    have hG' := Lib.hid hG
    clear hg hq hG
    go_enter Tryd.func20, Tryd.ntmps20
    go_wp2_with fail
    refine (As_fault q (w.heap.size + 1) _ hG'.out hT).mono ?_
    rintro e w2 ⟨rfl, hT2, hU⟩
    have hR2 := At.two hR hU (by omega) (by omega)
    have hQ2 := At.two hQ hU (by omega) (by omega)
    have hB2 := hB.trans (hU.below (Nat.le_succ _) (Nat.le_succ _) hB.size)
    have t0 := hT2.cell 0
    have q0 := hQ2.cell 0
    have q1 := hQ2.cell 1
    have q2 := hQ2.cell 2
    have r0 := hR2.cell 0
    have r1 := hR2.cell 1
    have r2 := hR2.cell 2
    have f0 := hR2.free 0
    have f1 := hR2.free 1
    have f2 := hR2.free 2
    simp at t0 q0 q1 q2 r0 r1 r2
    clear hR hT hQ hB hU
    go_wp2
    exact bodyPost_ret (res_flt rfl rfl (put3f hR2)) rfl ⟨rfl, ((hB2.setCell (by simp) _).setCell (by simp) _).setCell (by simp) _⟩

end Go.Proofs.YteefkijmodcijaaDoor.Feas

/-
  The same law for a region all of whose operations stand in no forced order: no tail. Nothing here speaks of a program.
-/
namespace Go.Proofs.YteefkijmodcijaaDoor.Sched
open Go.Proofs.YteefkijmodcijaaDoor.Tail (Fit least)

def okA (l : List Oper) : Bool := (List.range l.length).all fun j => ((l[j]?).map fun o => o.after.toList.all fun e => !Region.binds .any e || decide (e.on < j)).getD false
def OkA (l : List Oper) : Prop := ∀ j o, l[j]? = some o → ∀ e ∈ o.after, Region.binds .any e = true → e.on < j
theorem okA_of {l : List Oper} (h : okA l = true) : OkA l := by
  intro j o ho e he hb
  unfold okA at h
  rw [List.all_eq_true] at h
  have h2 := h j (List.mem_range.2 (List.getElem?_eq_some_iff.1 ho).1)
  rw [ho] at h2
  simp only [Option.map_some, Option.getD_some, List.all_eq_true, Bool.or_eq_true, Bool.not_eq_true', decide_eq_true_eq] at h2
  rcases h2 e (by simpa using he) with h6 | h6
  · rw [hb] at h6; cases h6
  · exact h6

variable {P : Program} {l : List Oper} {n : Nat} {Q : Exit → Act → World → Prop}
variable {Ext : World → World → Prop} {V : Nat → Value → World → Prop} {Z : (Nat → Bool) → (Nat → Value) → World → Prop} {w0 : World} {a0 : Act}

theorem schedA_any (hn : n = l.length) (hk : OkA l) (hseq : Region.seqB .any l.toArray (l.length - n) n (Array.replicate n true ++ Array.replicate (l.length - n) false) = true) (hA : apartB (l.take n) = true) (htr : ∀ {a b c}, Ext a b → Ext b c → Ext a c) (hV : ∀ {k v w w'}, V k v w → Ext w w' → V k v w') (hS : Steps P l n Q Ext V Z w0 a0 0 (l.take n))
    (hQ : ∀ ys w, Ext w0 w → (∀ i, i < n → V i (ys i) w) → (∃ done : Nat → Bool, (∀ i, i < n → done i = true) ∧ Z done ys w) → wpList P l.toArray Q (l.drop n) (fill 0 (l.take n) ys a0) w) :
    ∀ (fuel : Nat) (lh la : Array Bool) (ys : Nat → Value) (w : World), Ext w0 w → (∀ i, i < n → lh.getD i false = true → V i (ys i) w) → Z (fun i => lh.getD i false) ys w → Fit l n lh la → lh.toList.count false = fuel →
      wpAny P .any l.toArray Q (fuel + (l.length - n)) la (fill 0 (l.take n) ys a0) w
  | 0, lh, la, ys, w, hE, hF, hZ, hf, hc => by
    have hall' : ∀ j, j < n → lh[j]? = some true := by
      intro j hj
      have hlt : j < lh.size := by rw [hf.size]; exact hj
      rw [Array.getElem?_eq_getElem hlt]
      cases hb : lh[j]
      · exfalso
        have : false ∈ lh.toList := by rw [← hb]; simp
        have := List.count_pos_iff.2 this
        omega
      · rfl
    have hall : ∀ j, j < n → la[j]? = some true := fun j hj => by rw [hf.same j hj]; exact hall' j hj
    have hla : la = Array.replicate n true ++ Array.replicate (l.length - n) false := by
      apply Array.ext_getElem?
      intro j
      by_cases h1 : j < n
      · rw [hall j h1, Array.getElem?_append_left (by simpa using h1)]
        simp [h1]
      · rw [Array.getElem?_append_right (by simpa using (by omega : n ≤ j))]
        by_cases h2 : j < l.length
        · rw [hf.rest j (by omega) h2, Array.getElem?_replicate]
          simp
          omega
        · rw [Array.getElem?_eq_none (by rw [hf.sizeAll]; omega), Array.getElem?_eq_none (by simp; omega)]
    subst hla
    have hd : ∀ i, i < n → lh.getD i false = true := fun i hi => by rw [Array.getD_eq_getD_getElem?, hall' i hi]; rfl
    have := wpAny_of_seq (P := P) (md := .any) (ops := l.toArray) (Q' := Q) (l.drop n) n (Array.replicate n true ++ Array.replicate (l.length - n) false) (fill 0 (l.take n) ys a0) w (fun j => by simp [List.getElem?_drop]) (by simpa using hseq)
      (hQ ys w hE (fun i hi => hF i hi (hd i hi)) ⟨_, hd, hZ⟩)
    simpa using this
  | fuel + 1, lh, la, ys, w, hE, hF, hZ, hf, hc => by
    have hsome : ∃ j, j < n ∧ lh.getD j true = false := by
      have : false ∈ lh.toList := List.count_pos_iff.1 (by omega)
      obtain ⟨j, hj, hb⟩ := List.getElem_of_mem this
      have hj' : j < lh.size := by simpa using hj
      refine ⟨j, by rw [← hf.size]; exact hj', ?_⟩
      simp only [Array.getElem_toList] at hb
      simp [hj', hb]
    have hgd : ∀ j, j < n → la.getD j true = lh.getD j true := fun j hj => by
      have := hf.same j hj
      rw [Array.getD_eq_getD_getElem?, Array.getD_eq_getD_getElem?, this]
    have hgd' : ∀ j, j < n → la.getD j false = lh.getD j false := fun j hj => by
      have := hf.same j hj
      rw [Array.getD_eq_getD_getElem?, Array.getD_eq_getD_getElem?, this]
    have hboth : ∀ j, j < n → lh.getD j false = lh.getD j true := fun j hj => by
      have hlt : j < lh.size := by rw [hf.size]; exact hj
      simp [hlt]
    obtain ⟨j, hj, hpj, hmin⟩ := least (p := fun j => lh.getD j true) n hsome
    have hready : j ∈ Region.ready .any l.toArray la := by
      rw [mem_ready]
      obtain ⟨o, ho⟩ : ∃ o, l[j]? = some o := ⟨l[j]'(by omega), List.getElem?_eq_getElem (by omega)⟩
      refine ⟨by rw [hgd j hj]; exact hpj, o, by simpa using ho, fun e he hbb => ?_⟩
      have h1 := hk j o ho e he hbb
      rw [hgd' _ (by omega), hboth _ (by omega)]
      exact hmin _ h1
    have key : (Region.ready .any l.toArray la = [] → Q .normal (fill 0 (l.take n) ys a0) w) ∧ ∀ i ∈ Region.ready .any l.toArray la, wpOp P l.toArray Q i (wpAny P .any l.toArray Q (fuel + (l.length - n)) (la.setIfInBounds i true)) (fill 0 (l.take n) ys a0) w := by
      refine ⟨fun h0 => (by rw [h0] at hready; cases hready), fun i hi => ?_⟩
      rw [mem_ready] at hi
      obtain ⟨hi0, o, ho, hall⟩ := hi
      have ho' : l[i]? = some o := by simpa using ho
      have hin : i < n := by
        have := (List.getElem?_eq_some_iff.1 ho').1
        omega
      have hlti : i < lh.size := by rw [hf.size]; exact hin
      have hfi : lh.getD i false = false := by rw [hboth i hin, ← hgd i hin]; exact hi0
      have ho1 : (l.take n)[i]? = some o := by simp [hin, ho']
      have hst := hS.at ho1 ys (fun i => lh.getD i false) w hE (by simpa using hfi) hF (fun m hm => by
        rw [List.any_eq_true] at hm
        obtain ⟨e, he, hb⟩ := hm
        simp only [Bool.and_eq_true, beq_iff_eq] at hb
        have he' : e ∈ o.after := by simpa using he
        have h1 := hk i o ho' e he' hb.1
        have h2 := hall e he' hb.1
        rw [hgd' _ (by omega)] at h2
        show lh.getD m false = true
        rw [← hb.2]; exact h2) hZ
      simp only [Nat.zero_add] at hst
      refine wpOp_mono (fun a' w' hK => ?_) (wpOp_of_list ho hst)
      obtain ⟨v, rfl, hE', hv, hZ'⟩ := hK
      rw [fill_upd hA ho1, Nat.zero_add]
      have hset : ∀ m, (lh.setIfInBounds i true).getD m false = if m = i then true else lh.getD m false := by
        intro m
        rw [Array.getD_eq_getD_getElem?, Array.getElem?_setIfInBounds]
        by_cases hm : i = m
        · subst hm; simp [hlti]
        · rw [if_neg hm, if_neg (fun e => hm e.symm), Array.getD_eq_getD_getElem?]
      refine schedA_any hn hk hseq hA htr hV hS hQ fuel _ _ (upd ys i v) w' (htr hE hE') (fun m hm ht => ?_) ?_ (hf.set hin (fun o1 ho1 e he hb => by rw [ho'] at ho1; cases ho1; exact hall e he hb)) ?_
      · rw [hset] at ht
        by_cases hmi : m = i
        · subst hmi; simpa [upd] using hv
        · rw [if_neg hmi] at ht
          simp only [upd, if_neg hmi]
          exact hV (hF m hm ht) hE'
      · have : (fun m => (lh.setIfInBounds i true).getD m false) = mark (fun m => lh.getD m false) i := funext hset
        rw [this]; exact hZ'
      · have hlt : i < lh.toList.length := by simpa using hlti
        have hfalse : lh.toList[i] = false := by
          have h2 : lh.getD i true = false := by rw [← hgd i hin]; exact hi0
          simpa [hlti] using h2
        rw [Array.toList_setIfInBounds, List.count_set hlt, hfalse, hc]
        simp
    rw [show fuel + 1 + (l.length - n) = (fuel + (l.length - n)) + 1 by omega]
    exact key

/-- **A region each of whose operations keeps 'Ext' and leaves its fact; no tail.** -/
theorem wp_region_schedA {id : Nat} {a : Act} {w : World} (n : Nat) (Ext : World → World → Prop) (V : Nat → Value → World → Prop) (Z : (Nat → Bool) → (Nat → Value) → World → Prop)
    (hn : n = l.length) (hm : P.follows .mixedOrders = true) (hT : okA l = true) (hseq : Region.seqB .any l.toArray (l.length - n) n (Array.replicate n true ++ Array.replicate (l.length - n) false) = true) (hA : apartB (l.take n) = true)
    (htr : ∀ {a b c}, Ext a b → Ext b c → Ext a c) (hV : ∀ {k v w w'}, V k v w → Ext w w' → V k v w') (h0 : Ext w { w with drawn := w.drawn + 1 }) (hZ : ∀ ys, Z (fun _ => false) ys { w with drawn := w.drawn + 1 })
    (hS : Steps P l n Q Ext V Z w a 0 (l.take n))
    (hQ : ∀ ys w', Ext w w' → (∀ i, i < n → V i (ys i) w') → (∃ done : Nat → Bool, (∀ i, i < n → done i = true) ∧ Z done ys w') → wpList P l.toArray Q (l.drop n) (fill 0 (l.take n) ys a) w') : (Code.region id l.toArray true).wp P Q a w := by
  have hk := okA_of hT
  refine wp_region_any hm ?_
  obtain ⟨ys, hy⟩ := fill_self (l.take n) 0 a
  have hd : ∀ i, (Array.replicate n false).getD i false = false := fun i => by rw [Array.getD_eq_getD_getElem?, Array.getElem?_replicate]; split <;> rfl
  have h2 := schedA_any (P := P) (Q := Q) (w0 := w) (Ext := Ext) (V := V) (Z := Z) (a0 := a) hn hk hseq hA htr hV hS hQ n (Array.replicate n false) (Array.replicate l.length false) ys { w with drawn := w.drawn + 1 } h0
    (fun i _ h => by rw [hd] at h; cases h) (by rw [show (fun i => (Array.replicate n false).getD i false) = fun _ => false from funext hd]; exact hZ ys)
    ⟨by simp, by simp, fun j hj => by rw [Array.getElem?_replicate, Array.getElem?_replicate, if_pos hj, if_pos (by omega)], fun j h1 h2 => by simp [h2], fun j o hj ht => by rw [Array.getElem?_replicate] at ht; split at ht <;> cases ht⟩ (by simp)
  rw [hy, show n + (l.length - n) = l.length by omega] at h2
  simpa using h2


end Go.Proofs.YteefkijmodcijaaDoor.Sched

/-
  What is known of the values of a drawn region's operations: a value outright, or a predicate that lasts while memory grows. No program's walk here.
-/
namespace Go.Proofs.YteefkijmodcijaaDoor.Feas
open Go.RowKit Go.Proofs.YteefkijmodcijaaDoor.Mem
set_option linter.unusedVariables false

inductive Kn where
  | val (u : Value)
  | of (p : Value → World → Prop) (hp : ∀ {v w w'}, p v w → Below w.heap.size w w' → p v w')
  | any
def Kn.holds : Kn → Value → World → Prop
  | .val u, v, _ => v = u
  | .of p _, v, w => p v w
  | .any, _, _ => True
def VK (ks : List Kn) (i : Nat) (v : Value) (w : World) : Prop := ∀ k, ks[i]? = some k → k.holds v w
theorem VK.keep {ks : List Kn} {i : Nat} {v : Value} {w w' : World} (h : VK ks i v w) (hb : Below w.heap.size w w') : VK ks i v w' := fun k hk => by
  have h1 := h k hk
  cases k with
  | val u => exact h1
  | of p hp => exact hp h1 hb
  | any => trivial
theorem VK.val {ks : List Kn} {i : Nat} {u v : Value} {w : World} (h : ks[i]? = some (.val u)) (e : v = u) : VK ks i v w := fun k hk => by rw [h] at hk; cases hk; exact e
theorem VK.of {ks : List Kn} {i : Nat} {v : Value} {w : World} {p : Value → World → Prop} {hp : ∀ {v w w'}, p v w → Below w.heap.size w w' → p v w'} (h : ks[i]? = some (.of p hp)) (e : p v w) : VK ks i v w := fun k hk => by rw [h] at hk; cases hk; exact e
theorem VK.any {ks : List Kn} {i : Nat} {v : Value} {w : World} (h : ks[i]? = some .any) : VK ks i v w := fun k hk => by rw [h] at hk; cases hk; trivial
theorem VK.eq {ks : List Kn} {i : Nat} {u v : Value} {w : World} (hV : VK ks i v w) (h : ks[i]? = some (.val u)) : v = u := hV _ h
theorem VK.get {ks : List Kn} {i : Nat} {v : Value} {w : World} {p : Value → World → Prop} {hp : ∀ {v w w'}, p v w → Below w.heap.size w w' → p v w'} (hV : VK ks i v w) (h : ks[i]? = some (.of p hp)) : p v w := hV _ h
theorem belowTr {a b c : World} (h : Below a.heap.size a b) (k : Below b.heap.size b c) : Below a.heap.size a c := h.trans (k.mono h.size)

end Go.Proofs.YteefkijmodcijaaDoor.Feas

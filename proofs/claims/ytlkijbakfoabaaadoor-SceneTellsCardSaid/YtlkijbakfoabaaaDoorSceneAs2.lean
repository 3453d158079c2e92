/-
  errors.As finds package scene's fault; api.Told then tells it.
-/
import Derived.Test.YtlkijbakfoabaaaDoorSceneAs
import Derived.Test.YtlkijbakfoabaaaDoorSceneRefCounts
namespace Go.Proofs.YtlkijbakfoabaaaDoor.Scene
open Go.RowKit Go.Extern.Stop Go.Stop Go.Extern Go.Proofs.YtlkijbakfoabaaaDoor.Mem
set_option linter.unusedVariables false

set_option maxHeartbeats 4000000 in
theorem as_fault (q a t : Nat) (tgt : Value) (W : World) (ha : At W a 90 #[.pointer (some ⟨t, 0, none⟩)]) (ht : At W t 88 #[.pointer none]) :
    Calls Tryd.prog 45 #[.iface 79 (.pointer (some ⟨q, 0, none⟩)), tgt, .agg #[hnd 90, .pointer (some ⟨a, 0, none⟩), .int .u64 150], rty 88] W fun e w' =>
      e = .returned (.bool true) ∧ ((W.setCell ⟨t, 0, none⟩ (.pointer (some ⟨q, 0, none⟩))).alloc (.cells #[hnd 90, .pointer (some ⟨a, 0, none⟩), .int .u64 150] 104)).alloc (.cells #[.pointer (some ⟨q, 0, none⟩)] 88) = w' := by
  have h42 := @run_callFunc_extern Tryd.prog 42 _ (fun args => ReflectliteValue.unpack (args.getD 0 (.tuple #[]))) Tryd.func42 (by kernel_rfl) (by kernel_rfl) (by kernel_rfl) (by kernel_rfl)
  have h49 := @run_callFunc_extern Tryd.prog 49 _ ReflectliteType.typeOf Tryd.func49 (by kernel_rfl) (by kernel_rfl) (by kernel_rfl) (by kernel_rfl)
  have h82 := @run_callFunc_extern Tryd.prog 82 _ (ReflectliteType.relation "AssignableTo" ReflectliteType.assignableTo) Tryd.func82 (by kernel_rfl) (by kernel_rfl) (by kernel_rfl) (by kernel_rfl)
  have h50 := @run_callFunc_extern Tryd.prog 50 _ (ReflectliteValue.method (ReflectliteValue.valueError "reflectlite.Value.Elem" 0) ReflectliteValue.elem) Tryd.func50 (by kernel_rfl) (by kernel_rfl) (by kernel_rfl) (by kernel_rfl)
  have h51 := @run_callFunc_extern Tryd.prog 51 _ ReflectliteValue.set Tryd.func51 (by kernel_rfl) (by kernel_rfl) (by kernel_rfl) (by kernel_rfl)
  have mA := methodAssignableTo
  have mU := methodUnwrap
  have t79 := typeOf79
  have t88 := typeOf88
  have a79 := assignable79
  have a88 := assignable88
  have nA := noAs
  have hU := hasUnwrap
  have v88 := valueOf88
  have hal := ha.inside
  have htl := ht.inside
  have hW1 : (W.alloc (.cells #[hnd 90, .pointer (some ⟨a, 0, none⟩), .int .u64 150] 104)).heap.size = W.heap.size + 1 := by simp
  have el := elemV90 ⟨a, 0, none⟩ ⟨t, 0, none⟩ (W.alloc (.cells #[hnd 90, .pointer (some ⟨a, 0, none⟩), .int .u64 150] 104)) (by simpa using (ha.alloc _).cell 0)
  have st := set88 ⟨t, 0, none⟩ ⟨W.heap.size + 1, 0, none⟩ ⟨q, 0, none⟩ (.pointer none) ((W.alloc (.cells #[hnd 90, .pointer (some ⟨a, 0, none⟩), .int .u64 150] 104)).alloc (.cells #[.pointer (some ⟨q, 0, none⟩)] 88))
    (by simp) (by simpa using ((ht.alloc _).alloc _).cell 0) (((ht.alloc _).alloc _).free 0)
  clear ha ht hW1
  go_enter Tryd.func45, Tryd.ntmps45
  go_wp2
  refine wp_loop_rounds 2 ?_
  rw [rounds_succ]
  go_wp2_with fail
  refine (Unwrap_any _ _).mono ?_
  rintro e w2 ⟨rfl, rfl⟩
  go_wp2_with fail
  rw [rounds_succ]
  go_wp2
  go_ret
  exact ⟨rfl, rfl⟩

/-- Package errors' variable holds its handle. -/
def Hd (w : World) : Prop := w.cell? ⟨0, 0, none⟩ = some errHandle
theorem Hd.pos {w : World} (h : Hd w) : 0 < w.heap.size := by
  rcases Nat.eq_zero_or_pos w.heap.size with h0 | h1
  · simp [Hd, World.cell?, h0] at h
  · exact h1
theorem Hd.keep {B : Nat} {w v : World} (h : Hd w) (hb : Below B w v) (hB : 0 < B) : Hd v := (hb.cell (p := ⟨0, 0, none⟩) hB).trans h
theorem Hd.alloc {w : World} (h : Hd w) (o : Obj) : Hd (w.alloc o) := h.keep ((Below.refl w.heap.size w).alloc (Nat.le_refl _) o) h.pos

set_option maxHeartbeats 4000000 in
theorem As_fault (q t : Nat) (w : World) (hg : Hd w) (ht : At w t 88 #[.pointer none]) :
    Calls Tryd.prog 32 #[.iface 79 (.pointer (some ⟨q, 0, none⟩)), .iface 90 (.pointer (some ⟨t, 0, none⟩))] w fun e w' =>
      e = .returned (.bool true) ∧ At w' t 88 #[.pointer (some ⟨q, 0, none⟩)] ∧ Turned t w w' := by
  have h42 := @run_callFunc_extern Tryd.prog 42 _ (fun args => ReflectliteValue.unpack (args.getD 0 (.tuple #[]))) Tryd.func42 (by kernel_rfl) (by kernel_rfl) (by kernel_rfl) (by kernel_rfl)
  have h43 := @run_callFunc_extern Tryd.prog 43 _ (ReflectliteValue.methodAny (ReflectliteValue.valueError "reflectlite.Value.Type" 0) (fun t _ _ _ => ReflectliteType.toType t)) Tryd.func43 (by kernel_rfl) (by kernel_rfl) (by kernel_rfl) (by kernel_rfl)
  have h44 := @run_callFunc_extern Tryd.prog 44 _ (ReflectliteValue.method (ReflectliteValue.valueError "reflectlite.Value.IsNil" 0) ReflectliteValue.isNil) Tryd.func44 (by kernel_rfl) (by kernel_rfl) (by kernel_rfl) (by kernel_rfl)
  have h71 := @run_callFunc_extern Tryd.prog 71 _ (ReflectliteType.abiMethod fun t => do pure (.int .u8 (← Rtype.kind t))) Tryd.func71 (by kernel_rfl) (by kernel_rfl) (by kernel_rfl) (by kernel_rfl)
  have h84 := @run_callFunc_extern Tryd.prog 84 _ (ReflectliteType.method ReflectliteType.elem) Tryd.func84 (by kernel_rfl) (by kernel_rfl) (by kernel_rfl) (by kernel_rfl)
  have h85 := @run_callFunc_extern Tryd.prog 85 _ (ReflectliteType.relation "Implements" ReflectliteType.implements_) Tryd.func85 (by kernel_rfl) (by kernel_rfl) (by kernel_rfl) (by kernel_rfl)
  have v90 := valueOf90
  have ty90 := type90
  have mK := methodKind
  have mE := methodElem
  have mI := methodImplements
  have k90 := kind90
  have k88 := kind88
  have e90 := elem90
  have i88 := implements88
  have hA : At ((w.alloc (.cells #[.pointer (some ⟨t, 0, none⟩)] 90)).alloc (.cells #[hnd 90, .pointer (some ⟨w.heap.size, 0, none⟩), .int .u64 150] 104)) w.heap.size 90 #[.pointer (some ⟨t, 0, none⟩)] := (At.new _ _ _).alloc _
  have hT := (ht.alloc (.cells #[.pointer (some ⟨t, 0, none⟩)] 90)).alloc (.cells #[hnd 90, .pointer (some ⟨w.heap.size, 0, none⟩), .int .u64 150] 104)
  have n8 := isNil90 ⟨w.heap.size, 0, none⟩ ⟨t, 0, none⟩ ((w.alloc (.cells #[.pointer (some ⟨t, 0, none⟩)] 90)).alloc (.cells #[hnd 90, .pointer (some ⟨w.heap.size, 0, none⟩), .int .u64 150] 104)) (by simp)
  have hg2 : ((w.alloc (.cells #[.pointer (some ⟨t, 0, none⟩)] 90)).alloc (.cells #[hnd 90, .pointer (some ⟨w.heap.size, 0, none⟩), .int .u64 150] 104)).cell? ⟨0, 0, none⟩ = some errHandle := (hg.alloc _).alloc _
  unfold errHandle at hg2
  have hpos := hg.pos
  have htl := ht.inside
  have hAT := Lib.hid (And.intro hA hT)
  have ht' := Lib.hid ht
  clear hA hT ht
  have hg' := Lib.hid hg
  clear hg
  go_enter Tryd.func32, Tryd.ntmps32
  go_wp2_with fail
  refine (as_fault q w.heap.size t _ _ hAT.out.1 hAT.out.2).mono ?_
  rintro e w2 ⟨rfl, rfl⟩
  go_wp2
  go_ret
  refine ⟨rfl, ?_, ?_⟩
  · have := (((((ht'.out.put 0 (.pointer (some ⟨q, 0, none⟩))).alloc (.cells #[.pointer (some ⟨t, 0, none⟩)] 90)).alloc (.cells #[hnd 90, .pointer (some ⟨w.heap.size, 0, none⟩), .int .u64 150] 104)).alloc (.cells #[hnd 90, .pointer (some ⟨w.heap.size, 0, none⟩), .int .u64 150] 104)).alloc (.cells #[.pointer (some ⟨q, 0, none⟩)] 88))
    simpa using this
  · have h1 : Turned t w (w.setCell ⟨t, 0, none⟩ (.pointer (some ⟨q, 0, none⟩))) := ⟨rfl, rfl, rfl, by simp, fun k hk hn => Below.heap_setCell _ _ _ _ hn⟩
    generalize w.setCell ⟨t, 0, none⟩ (.pointer (some ⟨q, 0, none⟩)) = wx at *
    exact h1.trans (.of_below (((((Below.refl _ _).alloc (Nat.le_refl _) _).alloc (by simp) _).alloc (by simp; omega) _).alloc (by simp; omega) _))

/-- What is told of an error of package scene. -/
theorem Told_any (u : Value) (f : Int × Int × Int) (w : World) (hg : Hd w) (h : ErrAt w u f) (hz : f.1 = 0 → f = (0, 0, 0)) :
    Calls Tryd.prog 17 #[u] w fun e w' => e = .returned (.agg #[.int .i64 f.1, .int .i64 f.2.1, .int .i64 f.2.2]) ∧ Below w.heap.size w w' := by
  rcases h with ⟨h1, rfl⟩ | ⟨h1, q, rfl, hq⟩
  · obtain rfl := hz h1
    clear hz h1
    go_enter Tryd.func17, Tryd.ntmps17
    go_wp2_with fail
    refine (As_nil _ _).mono ?_
    rintro e w2 ⟨rfl, rfl⟩
    go_wp2_with fail
    refine (As_nil _ _).mono ?_
    rintro e w2 ⟨rfl, rfl⟩
    go_wp2
    exact bodyPost_ret (res_fault rfl rfl (((At.new _ _ _).alloc _).alloc _)) rfl ⟨rfl, (((Below.refl _ _).alloc (Nat.le_refl _) _).alloc (by simp) _).alloc (by simp; omega) _⟩
  · obtain ⟨c, p, i⟩ := f
    simp only at h1 hq ⊢
    clear hz h1
    have hR : At ((w.alloc (.cells #[.int .i64 0, .int .i64 0, .int .i64 0] 43)).alloc (.cells #[.pointer none] 88)) w.heap.size 43 #[.int .i64 0, .int .i64 0, .int .i64 0] := (At.new _ _ _).alloc _
    have hT : At ((w.alloc (.cells #[.int .i64 0, .int .i64 0, .int .i64 0] 43)).alloc (.cells #[.pointer none] 88)) (w.heap.size + 1) 88 #[.pointer none] := At.new_ _ _ _ (by simp)
    have hQ := (hq.alloc (.cells #[.int .i64 0, .int .i64 0, .int .i64 0] 43)).alloc (.cells #[.pointer none] 88)
    have hB : Below w.heap.size w ((w.alloc (.cells #[.int .i64 0, .int .i64 0, .int .i64 0] 43)).alloc (.cells #[.pointer none] 88)) := ((Below.refl _ _).alloc (Nat.le_refl _) _).alloc (by simp) _
    have hG := (hg.alloc (.cells #[.int .i64 0, .int .i64 0, .int .i64 0] 43)).alloc (.cells #[.pointer none] 88)
    have hql := hq.inside
    have hG' := Lib.hid hG
    clear hg hq hG
    go_enter Tryd.func17, Tryd.ntmps17
    go_wp2_with fail
    refine (As_fault q (w.heap.size + 1) _ hG'.out hT).mono ?_
    rintro e w2 ⟨rfl, hT2, hU⟩
    have hR2 := At.turned hR hU (by omega)
    have hQ2 := At.turned hQ hU (by omega)
    have hB2 := Turned.keepB hB hU (Nat.le_succ _) (Nat.le_refl _)
    have t0 := hT2.cell 0
    have q0 := hQ2.cell 0
    have q1 := hQ2.cell 1
    have q2 := hQ2.cell 2
    have r0 := hR2.cell 0
    have r1 := hR2.cell 1
    have r2 := hR2.cell 2
    have f0 := hR2.free 0
    have f1 := hR2.free 1
    have f2 := hR2.free 2
    simp at t0 q0 q1 q2 r0 r1 r2
    clear hR hT hQ hB hU
    go_wp2
    exact bodyPost_ret (res_fault rfl rfl (put3 hR2)) rfl ⟨rfl, ((hB2.setCell (by simp) _).setCell (by simp) _).setCell (by simp) _⟩

end Go.Proofs.YtlkijbakfoabaaaDoor.Scene

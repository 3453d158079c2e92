/-
  A map from numbers to numbers that a call has made, and package scene's small functions that ask it and write it.
-/
import Derived.Test.YtlkijbakfoabaaaDoorMem
import Derived.Test.YtlkijbakfoabaaaDoorOrderChk
import Derived.Test.YtlkijbakfoabaaaDoorSceneMath
import Derived.Maps.OwnIn
import Derived.DataShut
namespace Go.Proofs.YtlkijbakfoabaaaDoor.Scene
open Go.RowKit Go.Proofs.YtlkijbakfoabaaaDoor.Mem
set_option linter.unusedVariables false

theorem ret_int {k : IntKind} {a b : Int} (h : a = b) : Ending.returned (.int k a) = .returned (.int k b) := by rw [h]
theorem ret_bool {a b : Bool} (h : a = b) : Ending.returned (.bool a) = .returned (.bool b) := by rw [h]

/-- A number of 64 bits. -/
def I64 (r : Int) : Prop := -9223372036854775808 ≤ r ∧ r ≤ 9223372036854775807
theorem I64.wf {r : Int} (h : I64 r) : (Lit.int .i64 r).wf = true := (Lit.wf_int_iff _ _).2 ⟨by have := h.1; simp [IntKind.min, IntKind.bits, IntKind.signed]; omega, by have := h.2; simp [IntKind.max, IntKind.bits, IntKind.signed]; omega⟩

/-- Block b is a map of n entries at most, which holds just what f tells. -/
def MapAt (w : World) (b n : Nat) (f : Int → Option Int) : Prop :=
  ∃ D : DataW Unit, w.ownsMap Tryd.prog 3 (plainElem Tryd.prog 3) b n D ∧
    ∀ r, Maps.has D (.int .i64 r) = (f r).isSome ∧ ∀ c, f r = some c → D.atKey (.int .i64 r) (.lit (.int .i64 0)) = .lit (.int .i64 c)

variable {w v : World} {b n : Nat} {f : Int → Option Int}
theorem MapAt.inside (h : MapAt w b n f) : b < w.heap.size := h.elim fun _ h => h.1.lt
theorem MapAt.same (h : MapAt w b n f) (e : v.heap[b]? = w.heap[b]?) : MapAt v b n f := by
  obtain ⟨D, ⟨es, clock, h1, h2⟩, h3⟩ := h
  exact ⟨D, ⟨es, clock, e.trans h1, h2⟩, h3⟩
theorem MapAt.keep (h : MapAt w b n f) {B : Nat} (hb : Below B w v) (hB : b < B) : MapAt v b n f := h.same (hb.block b hB)
theorem MapAt.alloc (h : MapAt w b n f) (o : Obj) : MapAt (w.alloc o) b n f := h.same (Below.heap_alloc w o b h.inside)
theorem MapAt.far (h : MapAt w b n f) {a : Addr} (ha : b ≠ a.block) (u : Value) : MapAt (w.setCell a u) b n f := h.same (Below.heap_setCell w a u b ha)
theorem MapAt.made (w : World) : MapAt (w.alloc (.map #[] 0)) w.heap.size 0 (fun _ => none) :=
  ⟨_, World.ownsMap_made w _ _ _, fun r => ⟨rfl, fun c h => by cases h⟩⟩
theorem MapAt.more (h : MapAt w b n f) {m : Nat} (hm : n ≤ m) : MapAt w b m f := h.elim fun D h => ⟨D, h.1.mono hm, h.2⟩
theorem MapAt.funs (h : MapAt w b n f) {g : Int → Option Int} (e : ∀ r, g r = f r) : MapAt w b n g := by
  have : g = f := funext e
  rw [this]; exact h

theorem key_lit {r : Int} (hr : I64 r) : keyOf Tryd.prog 3 (.int .i64 r) = some (.int .i64 r) := Maps.keyOf_int_mk Tryd.underlying3 hr.wf

theorem put_tells {D : DataW Unit} (hm : Maps.IsMap D) {f : Int → Option Int} {r c : Int}
    (h : ∀ r, Maps.has D (.int .i64 r) = (f r).isSome ∧ ∀ c, f r = some c → D.atKey (.int .i64 r) (.lit (.int .i64 0)) = .lit (.int .i64 c)) (hk : WideAt.IsKeyLit (.int .i64 r)) :
    ∀ q, Maps.has (D.put (.int .i64 r) (.lit (.int .i64 c))) (.int .i64 q) = ((fun q => if q = r then some c else f q) q).isSome ∧
      ∀ e, (fun q => if q = r then some c else f q) q = some e → (D.put (.int .i64 r) (.lit (.int .i64 c))).atKey (.int .i64 q) (.lit (.int .i64 0)) = .lit (.int .i64 e) := by
  intro q
  by_cases hq : q = r
  · subst hq
    simp only [if_true]
    refine ⟨Maps.has_put_same hm hk _, fun e he => ?_⟩
    cases he
    exact Maps.atKey_put_same hm hk _ _
  · have hne : (Lit.int .i64 q) ≠ .int .i64 r := fun e => hq (by injection e)
    simp only [if_neg hq]
    refine ⟨(Maps.has_put_other hne _).trans (h q).1, fun e he => ?_⟩
    rw [Maps.atKey_put_other hne]
    exact (h q).2 e he

/-- Whom a map names, or -1. -/
def ofV (f : Int → Option Int) (r : Int) : Int := (f r).getD (-1)

theorem lit_inj {k : IntKind} {a c : Int} (h : (DataW.lit (.int k a) : DataW Unit) = .lit (.int k c)) : a = c := by injection h with h; injection h

set_option maxHeartbeats 1000000 in
theorem of_any (w : World) (b n : Nat) (f : Int → Option Int) (r : Int) (hr : I64 r) (h : MapAt w b n f) :
    Calls Tryd.prog 30 #[.map (some b), .int .i64 r] w fun e w' => e = .returned (.int .i64 (ofV f r)) ∧ w = w' := by
  obtain ⟨D, hown, hD⟩ := h
  have hkey := key_lit hr
  obtain ⟨h1, h2⟩ := hD r
  clear hD
  cases hf : f r with
  | none =>
    have hE := Lib.hid (show -1 = ofV f r by unfold ofV; rw [hf]; rfl)
    rw [hf] at h1
    have h1' : Maps.has D (.int .i64 r) = false := h1
    clear h1 h2 hf
    go_enter Tryd.func30, Tryd.ntmps30
    go_wp2_with (at_lookup; refine wpList_lookup_own_ok_int _ rfl _ _ 85 rfl 3 3 .i64 (Maps.int_keyed Tryd.underlying3) Tryd.underlying85 Tryd.underlying3 (Tryd.zeroValue3 _) b n D rfl hown _ _ rfl hkey ?_; intro c hat hwc; rw [h1']; clear hat hwc)
    go_ret
    exact ⟨ret_int hE.out, rfl⟩
  | some c0 =>
    have hE := Lib.hid (show c0 = ofV f r by unfold ofV; rw [hf]; rfl)
    have hc := Lib.hid (h2 c0 hf)
    rw [hf] at h1
    have h1' : Maps.has D (.int .i64 r) = true := h1
    clear h1 h2 hf
    go_enter Tryd.func30, Tryd.ntmps30
    go_wp2_with (at_lookup; refine wpList_lookup_own_ok_int _ rfl _ _ 85 rfl 3 3 .i64 (Maps.int_keyed Tryd.underlying3) Tryd.underlying85 Tryd.underlying3 (Tryd.zeroValue3 _) b n D rfl hown _ _ rfl hkey ?_; intro c hat hwc; rw [h1']; have hcc := Lib.hid (lit_inj (hat.symm.trans hc.out)); clear hat hwc)
    go_ret
    exact ⟨ret_int (hcc.out.trans hE.out), rfl⟩

/-- Does a number lie between two? -/
theorem within_any (a l m : Int) (w : World) :
    Calls Tryd.prog 41 #[.int .i64 a, .int .i64 l, .int .i64 m] w fun r w' => r = .returned (.bool (Order.btwB a l m)) ∧ w = w' := by
  by_cases h1 : a ≥ l
  · have hm := Lib.hid (Order.btw_yes1 (b := m) h1)
    go_enter Tryd.func41, Tryd.ntmps41
    go_wp2
    go_ret
    exact ⟨ret_bool hm.out, rfl⟩
  · have hm := Lib.hid (Order.btw_no1 (b := m) h1)
    go_enter Tryd.func41, Tryd.ntmps41
    go_wp2
    go_ret
    exact ⟨ret_bool hm.out, rfl⟩



theorem unless_any (h : Bool) (c : Int) (w : World) :
    Calls Tryd.prog 46 #[.bool h, .int .i64 c] w fun r w' => r = .returned (.int .i64 (unV h c)) ∧ w = w' := by
  cases h
  · go_enter Tryd.func46, Tryd.ntmps46
    go_wp2
    go_ret
    exact ⟨ret_int rfl, rfl⟩
  · go_enter Tryd.func46, Tryd.ntmps46
    go_wp2
    go_ret
    exact ⟨ret_int rfl, rfl⟩

/-- What is wrong with a claim, and what the map then holds. -/
def clmV (f : Int → Option Int) (N r : Int) : Int := if Order.btwB r 0 (N - 1) then (if (f r).isSome then 13 else 0) else 12
def clmF (f : Int → Option Int) (N r c : Int) : Int → Option Int := if Order.btwB r 0 (N - 1) && !(f r).isSome then fun q => if q = r then some c else f q else f

/-- A world in which block b alone, of those that were there, may have turned. -/
structure Turned (b : Nat) (w w' : World) : Prop where
  os : w'.os = w.os
  tape : w'.tape = w.tape
  output : w'.output = w.output
  size : w.heap.size ≤ w'.heap.size
  block : ∀ k, k < w.heap.size → k ≠ b → w'.heap[k]? = w.heap[k]?
theorem Turned.of_below {b : Nat} {w w' : World} (h : Below w.heap.size w w') : Turned b w w' := ⟨h.os, h.tape, h.output, h.size, fun k hk _ => h.block k hk⟩
theorem Turned.trans {b : Nat} {x y z : World} (h : Turned b x y) (k : Turned b y z) : Turned b x z :=
  ⟨k.os.trans h.os, k.tape.trans h.tape, k.output.trans h.output, Nat.le_trans h.size k.size, fun i hi hn => (k.block i (Nat.lt_of_lt_of_le hi h.size) hn).trans (h.block i hi hn)⟩
theorem Turned.grown {b : Nat} {w w' : World} {row : Option Nat} (h : w.grownBy w' row) (hr : ∀ k, row = some k → k = b) : Turned b w w' :=
  ⟨h.os, h.tape, h.output, h.size, fun k hk hn => h.block k hk (fun e => hn (hr k e.symm))⟩
theorem Turned.below {b B : Nat} {w w' : World} (h : Turned b w w') (hb : B ≤ b) (hB : B ≤ w.heap.size) : Below B w w' :=
  ⟨h.os, h.tape, h.output, h.size, fun k hk => h.block k (by omega) (by omega)⟩

end Go.Proofs.YtlkijbakfoabaaaDoor.Scene

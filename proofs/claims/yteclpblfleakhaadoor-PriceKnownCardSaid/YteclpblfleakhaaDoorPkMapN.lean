import Derived.Test.YteclpblfleakhaaDoorPkWhenMath

namespace Go.Proofs.YteclpblfleakhaaDoor.Route
open Go.RowKit Go.Proofs.YteclpblfleakhaaDoor.Mem
set_option linter.unusedVariables false
def MapAt (w : World) (b n : Nat) (f : Int → Option Int) : Prop :=
 ∃ D : DataW Unit, w.ownsMap Tryd.prog 3 (plainElem Tryd.prog 3) b n D ∧
  ∀ r, Maps.has D (.int .i64 r) = (f r).isSome ∧ D.atKey (.int .i64 r) (.lit (.int .i64 0)) = .lit (.int .i64 ((f r).getD 0))
variable {w v : World} {b n : Nat} {f : Int → Option Int}
theorem MapAt.inside (h : MapAt w b n f) : b < w.heap.size := h.elim fun _ h => h.1.lt
theorem MapAt.same (h : MapAt w b n f) (e : v.heap[b]? = w.heap[b]?) : MapAt v b n f := by
 obtain ⟨D, ⟨es, clock, h1, h2⟩, h3⟩ := h
 exact ⟨D, ⟨es, clock, e.trans h1, h2⟩, h3⟩
theorem MapAt.alloc (h : MapAt w b n f) (o : Obj) : MapAt (w.alloc o) b n f := h.same (Below.heap_alloc w o b h.inside)
theorem MapAt.more (h : MapAt w b n f) {m : Nat} (hm : n ≤ m) : MapAt w b m f := h.elim fun D h => ⟨D, h.1.mono hm, h.2⟩
theorem MapAt.funs (h : MapAt w b n f) {g : Int → Option Int} (e : ∀ r, g r = f r) : MapAt w b n g := by
 have : g = f := funext e
 rw [this]; exact h
theorem MapAt.made (w : World) : MapAt (w.alloc (.map #[] 0)) w.heap.size 0 (fun _ => none) :=
 ⟨_, World.ownsMap_made w _ _ _, fun r => ⟨rfl, rfl⟩⟩
theorem key_lit {r : Int} (hr : I64 r) : keyOf Tryd.prog 3 (.int .i64 r) = some (.int .i64 r) := Maps.keyOf_int_mk Tryd.underlying3 hr.wf
theorem put_tells {D : DataW Unit} (hm : Maps.IsMap D) {f : Int → Option Int} {r c : Int}
 (h : ∀ r, Maps.has D (.int .i64 r) = (f r).isSome ∧ D.atKey (.int .i64 r) (.lit (.int .i64 0)) = .lit (.int .i64 ((f r).getD 0))) (hk : WideAt.IsKeyLit (.int .i64 r)) :
 ∀ q, Maps.has (D.put (.int .i64 r) (.lit (.int .i64 c))) (.int .i64 q) = ((fun q => if q = r then some c else f q) q).isSome ∧
  (D.put (.int .i64 r) (.lit (.int .i64 c))).atKey (.int .i64 q) (.lit (.int .i64 0)) = .lit (.int .i64 (((fun q => if q = r then some c else f q) q).getD 0)) := by
 intro q
 by_cases hq : q = r
 · subst hq
   simp only [if_true]
   exact ⟨Maps.has_put_same hm hk _, Maps.atKey_put_same hm hk _ _⟩
 · have hne : (Lit.int .i64 q) ≠ .int .i64 r := fun e => hq (by injection e)
   simp only [if_neg hq]
   exact ⟨(Maps.has_put_other hne _).trans (h q).1, by rw [Maps.atKey_put_other hne]; exact (h q).2⟩
theorem lit_inj {k : IntKind} {a c : Int} (h : (DataW.lit (.int k a) : DataW Unit) = .lit (.int k c)) : a = c := by injection h with h; injection h
theorem drop_get {l : List (Int × Int)} {k : Nat} (h : k < l.length) : ∃ s, l[k]? = some s ∧ l.drop k = s :: l.drop (k + 1) := ⟨l[k], List.getElem?_eq_getElem h, List.drop_eq_getElem_cons h⟩
theorem Row.opened {B : Nat} {W : World} {v : Value} {l : List (Int × Int)} (h : Row B W v l) : ∃ x N cap, v = .slice x N cap ∧ Hid (l.length = N) ∧ Hid (x = none → N = 0 ∧ cap = 0) ∧ N ≤ cap ∧ cap ≤ maxLen := by
 obtain ⟨x, cap, e, h1, h2, h0⟩ := h.slice
 exact ⟨x, l.length, cap, e, Lib.hid rfl, Lib.hid (fun hx => ⟨by rw [(h0 hx).1]; rfl, (h0 hx).2⟩), h1, h2⟩
theorem Ints.opened {B : Nat} {W : World} {v : Value} {l : List Int} (h : Ints B W v l) : ∃ x N cap, v = .slice x N cap ∧ Hid (l.length = N) ∧ N ≤ cap ∧ cap ≤ maxLen := by
 obtain ⟨x, cap, e, h1, h2⟩ := h.slice
 exact ⟨x, l.length, cap, e, Lib.hid rfl, h1, h2⟩
theorem take_get {l : List (Int × Int)} {k : Nat} {s : Int × Int} (h : l[k]? = some s) : l.take (k + 1) = l.take k ++ [s] := by rw [List.take_add_one, h]; rfl
theorem wo_succ_no {l : List (Int × Int)} {k : Nat} {s : Int × Int} {r : Int} (h : l[k]? = some s) (hr : s.1 = r) : woL r (l.take (k + 1)) = woL r (l.take k) := by rw [take_get h, wo_append]; simp [woL, hr]
theorem wo_succ_yes {l : List (Int × Int)} {k : Nat} {s : Int × Int} {r : Int} (h : l[k]? = some s) (hr : s.1 ≠ r) : woL r (l.take (k + 1)) = woL r (l.take k) ++ [s] := by rw [take_get h, wo_append]; simp [woL, hr]
theorem wo_take_le (r : Int) (l : List (Int × Int)) (k : Nat) : (woL r (l.take k)).length ≤ k := by
 have := wo_length r (l.take k)
 rw [List.length_take] at this
 omega
end Go.Proofs.YteclpblfleakhaaDoor.Route

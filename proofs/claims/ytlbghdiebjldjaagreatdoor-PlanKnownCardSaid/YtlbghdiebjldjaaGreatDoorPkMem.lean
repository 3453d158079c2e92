import Derived.Test.YtlbghdiebjldjaaGreatDoorPkShelf
import Derived.WalkLawsBesides
import Derived.WalkSpells
import Derived.Maps.OwnIn
import Derived.ProofKit
import Derived.Test.YtlbghdiebjldjaaGreatDoorRows
import Derived.Lib.QuietBelow
import Derived.Lib.Hide
import Derived.Deep.RegionHeld3
import Derived.Deep.CutBlock
import Derived.Deep.AppendLies
import Derived.Laws.AppendOwnNone
import Derived.StillTailTactics
import Derived.DataShut

namespace Go.Proofs.YtlbghdiebjldjaaGreatDoor.Mem
open Go.RowKit
def At (w : World) (g : Nat) (t : TypeId) (cs : Array Value) : Prop := w.heap[g]? = some (.cells cs t (0, 0))
variable {w v : World} {g : Nat} {t : TypeId} {cs : Array Value}
theorem At.cell (h : At w g t cs) (i : Nat) : w.cell? ⟨g, i, none⟩ = cs[i]? := cell_of_row w g i cs t (0, 0) h
theorem At.free (h : At w g t cs) (i : Nat) : w.frozen? ⟨g, i, none⟩ = false := by
 simp only [At] at h
 simp [World.frozen?, h]
theorem At.inside (h : At w g t cs) : g < w.heap.size := (Array.getElem?_eq_some_iff.1 h).1
theorem At.keep {B : Nat} (h : At w g t cs) (hb : Below B w v) (hg : g < B) : At v g t cs := (hb.block g hg).trans h
theorem At.drew (h : At w g t cs) : At w.drew g t cs := h
theorem At.drewN (h : At w g t cs) (n : Nat) : At (w.drewN n) g t cs := h
theorem At.alloc (h : At w g t cs) (o : Obj) : At (w.alloc o) g t cs := (Below.heap_alloc w o g h.inside).trans h
theorem At.new (w : World) (t : TypeId) (cs : Array Value) : At (w.alloc (.cells cs t)) w.heap.size t cs := heap_alloc_new w _
theorem At.new_ (w : World) (t : TypeId) (cs : Array Value) {n : Nat} (hn : n = w.heap.size) : At (w.alloc (.cells cs t)) n t cs := by subst hn; exact At.new w t cs
theorem At.put (h : At w g t cs) (i : Nat) (x : Value) : At (w.setCell ⟨g, i, none⟩ x) g t (cs.setIfInBounds i x) := by
 simp only [At] at h ⊢
 simp [World.setCell, Array.getElem?_modify, h]
theorem At.far (h : At w g t cs) {b : Nat} (hb : g ≠ b) (i : Nat) (x : Value) : At (w.setCell ⟨b, i, none⟩ x) g t cs := (Below.heap_setCell w ⟨b, i, none⟩ x g hb).trans h
end Go.Proofs.YtlbghdiebjldjaaGreatDoor.Mem
namespace Go.Proofs.YtlbghdiebjldjaaGreatDoor.Route
open Go.RowKit Go.Proofs.YtlbghdiebjldjaaGreatDoor.Mem
set_option linter.unusedVariables false
theorem ret_int {k : IntKind} {a b : Int} (h : a = b) : Ending.returned (.int k a) = .returned (.int k b) := by rw [h]
theorem ret_bool {a b : Bool} (h : a = b) : Ending.returned (.bool a) = .returned (.bool b) := by rw [h]
def I64 (r : Int) : Prop := -9223372036854775808 ≤ r ∧ r ≤ 9223372036854775807
theorem I64.wf {r : Int} (h : I64 r) : (Lit.int .i64 r).wf = true := (Lit.wf_int_iff _ _).2 ⟨by have := h.1; simp [IntKind.min, IntKind.bits, IntKind.signed]; omega, by have := h.2; simp [IntKind.max, IntKind.bits, IntKind.signed]; omega⟩
def Nums (l : List (Int × Int)) : Prop := ∀ s ∈ l, I64 s.1 ∧ I64 s.2
def RowB (B : Nat) (W : World) (v : Value) (m : Nat) (rows : List (List Value)) : Prop :=
 ∃ x cap, v = .slice x rows.length cap ∧ rows.length ≤ cap ∧ cap ≤ maxLen ∧ (x = none → rows = [] ∧ cap = 0) ∧
  ∀ j r, rows[j]? = some r → ∃ g o, x = some ⟨g, o, none⟩ ∧ g < B ∧ ∀ k u, r[k]? = some u → W.cell? ⟨g, o + j * m + k, none⟩ = some u
theorem RowB.keep {B C : Nat} {W W' : World} {v : Value} {m : Nat} {rows : List (List Value)} (h : RowB B W v m rows) (hb : Below C W W') (hB : B ≤ C) : RowB B W' v m rows := by
 obtain ⟨x, cap, rfl, h1, h2, h0, h3⟩ := h
 refine ⟨x, cap, rfl, h1, h2, h0, fun j r hj => ?_⟩
 obtain ⟨g, o, rfl, hg, hc⟩ := h3 j r hj
 exact ⟨g, o, rfl, hg, fun k u hk => (hb.cell (p := ⟨g, o + j * m + k, none⟩) (by show g < C; omega)).trans (hc k u hk)⟩
theorem RowB.more {B C : Nat} {W : World} {v : Value} {m : Nat} {rows : List (List Value)} (h : RowB B W v m rows) (hB : B ≤ C) : RowB C W v m rows := by
 obtain ⟨x, cap, rfl, h1, h2, h0, h3⟩ := h
 refine ⟨x, cap, rfl, h1, h2, h0, fun j r hj => ?_⟩
 obtain ⟨g, o, rfl, hg, hc⟩ := h3 j r hj
 exact ⟨g, o, rfl, by omega, hc⟩
theorem RowB.on {W W' : World} {v : Value} {m : Nat} {rows : List (List Value)} (h : RowB W.heap.size W v m rows) (hb : Below W.heap.size W W') : RowB W'.heap.size W' v m rows := (h.keep hb (Nat.le_refl _)).more hb.size
theorem RowB.row {B : Nat} {W : World} {x : Option Addr} {n cap m : Nat} {rows : List (List Value)} (h : RowB B W (.slice x n cap) m rows) {j : Nat} {r : List Value} (hj : rows[j]? = some r) :
 ∃ g o, x = some ⟨g, o, none⟩ ∧ g < B ∧ ∀ k u, r[k]? = some u → W.cell? ⟨g, o + j * m + k, none⟩ = some u := by
 obtain ⟨x', cap', e, _, _, _, h3⟩ := h
 cases e
 exact h3 j r hj
def stV (s : Int × Int) : List Value := [.int .i64 s.1, .int .i64 s.2]
def inV (r : Int) : List Value := [.int .i64 r]
def Row (B : Nat) (W : World) (v : Value) (l : List (Int × Int)) : Prop := RowB B W v 2 (l.map stV)
def Ints (B : Nat) (W : World) (v : Value) (l : List Int) : Prop := RowB B W v 1 (l.map inV)
def flatS (l : List (Int × Int)) : List Value := (l.map stV).flatten
def flatI (l : List Int) : List Value := (l.map inV).flatten
theorem flatS_snoc (l : List (Int × Int)) (s : Int × Int) : flatS (l ++ [s]) = flatS l ++ [.int .i64 s.1, .int .i64 s.2] := by simp [flatS, stV]
theorem flatI_snoc (l : List Int) (s : Int) : flatI (l ++ [s]) = flatI l ++ [.int .i64 s] := by simp [flatI, inV]
theorem flatS_append (a b : List (Int × Int)) : flatS (a ++ b) = flatS a ++ flatS b := by simp [flatS]
theorem flatS_length (l : List (Int × Int)) : (flatS l).length = l.length * 2 := by
 induction l with
 | nil => rfl
 | cons s l ih =>
  have : flatS (s :: l) = stV s ++ flatS l := by simp [flatS]
  rw [this, List.length_append, ih]
  simp [stV]
  omega
theorem flatI_length (l : List Int) : (flatI l).length = l.length * 1 := by
 induction l with
 | nil => rfl
 | cons s l ih =>
  have : flatI (s :: l) = inV s ++ flatI l := by simp [flatI]
  rw [this, List.length_append, ih]
  simp [inV]
  omega
theorem flatS_one {l : List (Int × Int)} : ∀ u ∈ flatS l, u.oneCell' = true := by
 intro u hu
 simp only [flatS, List.mem_flatten, List.mem_map] at hu
 obtain ⟨r, ⟨s, _, rfl⟩, hu⟩ := hu
 simp only [stV, List.mem_cons, List.not_mem_nil, or_false] at hu
 rcases hu with rfl | rfl <;> rfl
theorem flat_get {α : Type} {m : Nat} : ∀ {rows : List (List α)}, (∀ r ∈ rows, r.length = m) → ∀ j r, rows[j]? = some r → ∀ k u, r[k]? = some u → rows.flatten[j * m + k]? = some u
 | [], _, j, r, hj, _, _, _ => by simp at hj
 | r0 :: rows, hm, j, r, hj, k, u, hk => by
  have h0 := hm r0 (List.mem_cons_self ..)
  rw [List.flatten_cons]
  cases j with
  | zero =>
   simp at hj
   subst hj
   have := (List.getElem?_eq_some_iff.1 hk).1
   rw [List.getElem?_append_left (by omega)]
   simpa using hk
  | succ j =>
   have hj' : rows[j]? = some r := by simpa using hj
   have ih := flat_get (fun r hr => hm r (List.mem_cons_of_mem _ hr)) j r hj' k u hk
   rw [List.getElem?_append_right (by rw [h0, Nat.succ_mul]; omega), h0, show (j + 1) * m + k - m = j * m + k by rw [Nat.succ_mul]; omega]
   exact ih
theorem flat_of {α : Type} {m : Nat} (hm : 0 < m) : ∀ {rows : List (List α)}, (∀ r ∈ rows, r.length = m) → ∀ i u, rows.flatten[i]? = some u → ∃ j k r, i = j * m + k ∧ rows[j]? = some r ∧ r[k]? = some u
 | [], _, i, u, h => by simp at h
 | r0 :: rows, hl, i, u, h => by
  have h0 := hl r0 (List.mem_cons_self ..)
  rw [List.flatten_cons] at h
  rcases Nat.lt_or_ge i r0.length with hi | hi
  · rw [List.getElem?_append_left hi] at h
    exact ⟨0, i, r0, by omega, rfl, h⟩
  · rw [List.getElem?_append_right hi] at h
    obtain ⟨j, k, r, e, h1, h2⟩ := flat_of hm (fun r hr => hl r (List.mem_cons_of_mem _ hr)) _ u h
    exact ⟨j + 1, k, r, by rw [Nat.succ_mul]; omega, by simpa using h1, h2⟩
theorem RowB.nil (B : Nat) (W : World) (m : Nat) : RowB B W (.slice none 0 0) m [] := ⟨none, 0, rfl, Nat.le_refl _, Nat.zero_le _, fun _ => ⟨rfl, rfl⟩, fun j r hj => by simp at hj⟩
theorem RowB.of_at {B : Nat} {W : World} {g m cap : Nat} {t : TypeId} {cs : Array Value} {rows : List (List Value)} (h : At W g t cs) (hg : g < B) (hm : ∀ r ∈ rows, r.length = m) (hcs : ∀ (i : Nat) (u : Value), rows.flatten[i]? = some u → cs[i]? = some u) (hc : rows.length ≤ cap) (hcap : cap ≤ maxLen) :
 RowB B W (.slice (some ⟨g, 0, none⟩) rows.length cap) m rows :=
 ⟨_, cap, rfl, hc, hcap, fun e => (by cases e), fun j r hj => ⟨g, 0, rfl, hg, fun k u hk => by
  rw [Nat.zero_add]
  exact (h.cell _).trans (hcs _ _ (flat_get hm j r hj k u hk))⟩⟩
theorem RowB.of_owns {B : Nat} {W : World} {base m n : Nat} {e : TypeId} {v : Value} {rows : List (List Value)} (h : W.ownsRow base e m v n rows.flatten) (hn : n = rows.length) (hm : ∀ r ∈ rows, r.length = m) (hB : W.heap.size ≤ B) : RowB B W v m rows := by
 subst hn
 obtain ⟨hl, ⟨rfl, h0⟩ | ⟨g, cap, cur, rfl, hb, hg, hc1, hc2, hs, ht⟩⟩ := h
 · obtain rfl : rows = [] := List.eq_nil_of_length_eq_zero h0
   exact .nil B W m
 · refine RowB.of_at (t := e) (cs := cur) hg (Nat.lt_of_lt_of_le (Array.getElem?_eq_some_iff.1 hg).1 hB) hm (fun i u hu => ?_) hc1 hc2
   have hi : i < rows.length * m := by
    have := (List.getElem?_eq_some_iff.1 hu).1
    omega
   rw [← ht, List.getElem?_take_of_lt hi] at hu
   simpa using hu
theorem Row.of_owns {B : Nat} {W : World} {base n : Nat} {e : TypeId} {v : Value} {l : List (Int × Int)} (h : W.ownsRow base e 2 v n (flatS l)) (hn : n = l.length) (hB : W.heap.size ≤ B) : Row B W v l :=
 RowB.of_owns h (by simpa using hn) (fun r hr => by obtain ⟨s, _, rfl⟩ := List.mem_map.1 hr; rfl) hB
theorem Ints.of_owns {B : Nat} {W : World} {base n : Nat} {e : TypeId} {v : Value} {l : List Int} (h : W.ownsRow base e 1 v n (flatI l)) (hn : n = l.length) (hB : W.heap.size ≤ B) : Ints B W v l :=
 RowB.of_owns h (by simpa using hn) (fun r hr => by obtain ⟨s, _, rfl⟩ := List.mem_map.1 hr; rfl) hB
theorem Row.keep {B C : Nat} {W W' : World} {v : Value} {l : List (Int × Int)} (h : Row B W v l) (hb : Below C W W') (hB : B ≤ C) : Row B W' v l := RowB.keep h hb hB
theorem Row.more {B C : Nat} {W : World} {v : Value} {l : List (Int × Int)} (h : Row B W v l) (hB : B ≤ C) : Row C W v l := RowB.more h hB
theorem Row.on {W W' : World} {v : Value} {l : List (Int × Int)} (h : Row W.heap.size W v l) (hb : Below W.heap.size W W') : Row W'.heap.size W' v l := RowB.on h hb
theorem Ints.keep {B C : Nat} {W W' : World} {v : Value} {l : List Int} (h : Ints B W v l) (hb : Below C W W') (hB : B ≤ C) : Ints B W' v l := RowB.keep h hb hB
theorem Ints.on {W W' : World} {v : Value} {l : List Int} (h : Ints W.heap.size W v l) (hb : Below W.heap.size W W') : Ints W'.heap.size W' v l := RowB.on h hb
theorem Row.slice {B : Nat} {W : World} {v : Value} {l : List (Int × Int)} (h : Row B W v l) : ∃ x cap, v = .slice x l.length cap ∧ l.length ≤ cap ∧ cap ≤ maxLen ∧ (x = none → l = [] ∧ cap = 0) := by
 obtain ⟨x, cap, rfl, h1, h2, h0, _⟩ := h
 refine ⟨x, cap, by simp, by simpa using h1, h2, fun e => ?_⟩
 have := h0 e
 simpa using this
theorem Ints.slice {B : Nat} {W : World} {v : Value} {l : List Int} (h : Ints B W v l) : ∃ x cap, v = .slice x l.length cap ∧ l.length ≤ cap ∧ cap ≤ maxLen := by
 obtain ⟨x, cap, rfl, h1, h2, _, _⟩ := h
 exact ⟨x, cap, by simp, by simpa using h1, h2⟩
theorem Row.stop {B : Nat} {W : World} {x : Option Addr} {n cap : Nat} {l : List (Int × Int)} (h : Row B W (.slice x n cap) l) {k : Nat} {s : Int × Int} (hk : l[k]? = some s) :
 ∃ g o, x = some ⟨g, o, none⟩ ∧ g < B ∧ W.cell? ⟨g, o + k * 2, none⟩ = some (.int .i64 s.1) ∧ W.cell? ⟨g, o + k * 2 + 1, none⟩ = some (.int .i64 s.2) := by
 obtain ⟨g, o, e, hg, hc⟩ := RowB.row h (j := k) (r := stV s) (by rw [List.getElem?_map, hk]; rfl)
 exact ⟨g, o, e, hg, hc 0 _ rfl, hc 1 _ rfl⟩
theorem Ints.number {B : Nat} {W : World} {x : Option Addr} {n cap : Nat} {l : List Int} (h : Ints B W (.slice x n cap) l) {k : Nat} {s : Int} (hk : l[k]? = some s) :
 ∃ g o, x = some ⟨g, o, none⟩ ∧ g < B ∧ W.cell? ⟨g, o + k, none⟩ = some (.int .i64 s) := by
 obtain ⟨g, o, e, hg, hc⟩ := RowB.row h (j := k) (r := inV s) (by rw [List.getElem?_map, hk]; rfl)
 exact ⟨g, o, e, hg, by simpa using hc 0 _ rfl⟩
theorem owns_below {W W' : World} {base : Nat} {e : TypeId} {size n : Nat} {v : Value} {xs : List Value} (h : W.ownsRow base e size v n xs) (hb : Below W.heap.size W W') : W'.ownsRow base e size v n xs := by
 obtain ⟨hl, h1 | ⟨g, cap, cur, rfl, hg1, hg, hr⟩⟩ := h
 · exact ⟨hl, .inl h1⟩
 · exact ⟨hl, .inr ⟨g, cap, cur, rfl, hg1, (hb.block g (Array.getElem?_eq_some_iff.1 hg).1).trans hg, hr⟩⟩
theorem owns_row {W : World} {base : Nat} {e : TypeId} {size n : Nat} {v : Value} {xs : List Value} (h : W.ownsRow base e size v n xs) : ∀ r, v.ownBlock = some r → base ≤ r := by
 obtain ⟨hl, ⟨rfl, h0⟩ | ⟨g, cap, cur, rfl, hb, hg, hc1, hc2, hs, ht⟩⟩ := h
 · intro r e; cases e
 · intro r e
   simp only [Value.ownBlock, Option.some.injEq] at e
   omega
theorem info_parts {t : TypeId} {n bytes : Nat} {z : Value} (h : (Tryz.prog.info? t).map (fun i => (i.zero, i.size, i.bytes)) = some (some z, n, bytes)) :
 ∃ i, Tryz.prog.info? t = some i ∧ i.zero = some z ∧ i.size = n ∧ i.bytes = bytes := by
 cases hi : Tryz.prog.info? t with
 | none => rw [hi] at h; simp at h
 | some i =>
  rw [hi] at h
  simp at h
  exact ⟨i, rfl, h.1, h.2.1, h.2.2⟩
theorem info_stop : (Tryz.prog.info? 75).map (fun i => (i.zero, i.size, i.bytes)) = some (some (.agg #[.int .i64 0, .int .i64 0]), 2, 16) := by kernel_rfl
theorem info_int : (Tryz.prog.info? 3).map (fun i => (i.zero, i.size, i.bytes)) = some (some (.int .i64 0), 1, 8) := by kernel_rfl
def MapAt (w : World) (b n : Nat) (f : Int → Option Int) : Prop :=
 ∃ D : DataW Unit, w.ownsMap Tryz.prog 3 (plainElem Tryz.prog 3) b n D ∧
  ∀ r, Maps.has D (.int .i64 r) = (f r).isSome ∧ D.atKey (.int .i64 r) (.lit (.int .i64 0)) = .lit (.int .i64 ((f r).getD 0))
variable {w v : World} {b n : Nat} {f : Int → Option Int}
theorem MapAt.inside (h : MapAt w b n f) : b < w.heap.size := h.elim fun _ h => h.1.lt
theorem MapAt.same (h : MapAt w b n f) (e : v.heap[b]? = w.heap[b]?) : MapAt v b n f := by
 obtain ⟨D, ⟨es, clock, h1, h2⟩, h3⟩ := h
 exact ⟨D, ⟨es, clock, e.trans h1, h2⟩, h3⟩
theorem MapAt.alloc (h : MapAt w b n f) (o : Obj) : MapAt (w.alloc o) b n f := h.same (Below.heap_alloc w o b h.inside)
theorem MapAt.more (h : MapAt w b n f) {m : Nat} (hm : n ≤ m) : MapAt w b m f := h.elim fun D h => ⟨D, h.1.mono hm, h.2⟩
theorem MapAt.funs (h : MapAt w b n f) {g : Int → Option Int} (e : ∀ r, g r = f r) : MapAt w b n g := by
 have : g = f := funext e
 rw [this]; exact h
theorem MapAt.made (w : World) : MapAt (w.alloc (.map #[] 0)) w.heap.size 0 (fun _ => none) :=
 ⟨_, World.ownsMap_made w _ _ _, fun r => ⟨rfl, rfl⟩⟩
theorem key_lit {r : Int} (hr : I64 r) : keyOf Tryz.prog 3 (.int .i64 r) = some (.int .i64 r) := Maps.keyOf_int_mk Tryz.underlying3 hr.wf
theorem put_tells {D : DataW Unit} (hm : Maps.IsMap D) {f : Int → Option Int} {r c : Int}
 (h : ∀ r, Maps.has D (.int .i64 r) = (f r).isSome ∧ D.atKey (.int .i64 r) (.lit (.int .i64 0)) = .lit (.int .i64 ((f r).getD 0))) (hk : WideAt.IsKeyLit (.int .i64 r)) :
 ∀ q, Maps.has (D.put (.int .i64 r) (.lit (.int .i64 c))) (.int .i64 q) = ((fun q => if q = r then some c else f q) q).isSome ∧
  (D.put (.int .i64 r) (.lit (.int .i64 c))).atKey (.int .i64 q) (.lit (.int .i64 0)) = .lit (.int .i64 (((fun q => if q = r then some c else f q) q).getD 0)) := by
 intro q
 by_cases hq : q = r
 · subst hq
   simp only [if_true]
   exact ⟨Maps.has_put_same hm hk _, Maps.atKey_put_same hm hk _ _⟩
 · have hne : (Lit.int .i64 q) ≠ .int .i64 r := fun e => hq (by injection e)
   simp only [if_neg hq]
   exact ⟨(Maps.has_put_other hne _).trans (h q).1, by rw [Maps.atKey_put_other hne]; exact (h q).2⟩
theorem lit_inj {k : IntKind} {a c : Int} (h : (DataW.lit (.int k a) : DataW Unit) = .lit (.int k c)) : a = c := by injection h with h; injection h
theorem drop_get {l : List (Int × Int)} {k : Nat} (h : k < l.length) : ∃ s, l[k]? = some s ∧ l.drop k = s :: l.drop (k + 1) := ⟨l[k], List.getElem?_eq_getElem h, List.drop_eq_getElem_cons h⟩
theorem Row.opened {B : Nat} {W : World} {v : Value} {l : List (Int × Int)} (h : Row B W v l) : ∃ x N cap, v = .slice x N cap ∧ Hid (l.length = N) ∧ Hid (x = none → N = 0 ∧ cap = 0) ∧ N ≤ cap ∧ cap ≤ maxLen := by
 obtain ⟨x, cap, e, h1, h2, h0⟩ := h.slice
 exact ⟨x, l.length, cap, e, Lib.hid rfl, Lib.hid (fun hx => ⟨by rw [(h0 hx).1]; rfl, (h0 hx).2⟩), h1, h2⟩
theorem Ints.opened {B : Nat} {W : World} {v : Value} {l : List Int} (h : Ints B W v l) : ∃ x N cap, v = .slice x N cap ∧ Hid (l.length = N) ∧ N ≤ cap ∧ cap ≤ maxLen := by
 obtain ⟨x, cap, e, h1, h2⟩ := h.slice
 exact ⟨x, l.length, cap, e, Lib.hid rfl, h1, h2⟩
theorem cnt_le (s : Int × Int) (l : List (Int × Int)) : cnt s l ≤ l.length := List.length_filter_le ..
theorem take_get {l : List (Int × Int)} {k : Nat} {s : Int × Int} (h : l[k]? = some s) : l.take (k + 1) = l.take k ++ [s] := by rw [List.take_add_one, h]; rfl
set_option maxRecDepth 100000 in
set_option maxHeartbeats 1000000 in
theorem count_any (v : Value) (l : List (Int × Int)) (a b : Int) (hl : l.length ≤ 140737488351232) (w : World) (h : Row w.heap.size w v l) :
 Calls Tryz.prog 146 #[v, .agg #[.int .i64 a, .int .i64 b]] w fun e w' => e = .returned (.int .i64 (cnt (a, b) l)) ∧ Below w.heap.size w w' := by
 obtain ⟨x, N, cap, rfl, hN', h0', hc1, hc2⟩ := h.opened
 have hb0 : Below w.heap.size w (w.alloc (.cells #[.int .i64 a, .int .i64 b] 75)) := (Below.refl _ _).alloc (Nat.le_refl _) _
 have hA0 : At (w.alloc (.cells #[.int .i64 a, .int .i64 b] 75)) w.heap.size 75 #[.int .i64 a, .int .i64 b] := At.new w _ _
 have h' := Lib.hid h
 rw [hN'.out] at hl
 clear h
 go_enter Tryz.func146, Tryz.ntmps146
 go_wp2
 go_loopw [5, 6] (fun n i wr => ∃ k c : Nat, k ≤ N ∧ i = .int .i64 k ∧ n = .int .i64 c ∧ c = cnt (a, b) (l.take k) ∧ Below w.heap.size w wr ∧ At wr w.heap.size 75 #[.int .i64 a, .int .i64 b])
  (fun _ i _ => N - (intOf i).toNat)
 case atStart => exact ⟨0, 0, by omega, rfl, rfl, by simp [cnt], hb0, hA0⟩
 case round =>
  obtain ⟨k, c, hk, rfl, rfl, hcc, hbw, hA⟩ := hrel
  have hcl : c ≤ k := by
   have h1 := cnt_le (a, b) (l.take k)
   rw [List.length_take] at h1
   omega
  have hcc' := Lib.hid hcc
  clear hb0 hA0 hcc
  by_cases hlt : k < N
  · obtain ⟨s, hs, _⟩ := drop_get (l := l) (k := k) (by rw [hN'.out]; exact hlt)
    obtain ⟨s1, s2⟩ := s
    have hst := take_get hs
    obtain ⟨g, o, rfl, hg, e1, e2⟩ := Row.stop h'.out hs
    have e1 := (hbw.cell (p := ⟨g, o + k * 2, none⟩) hg).trans e1
    have e2 := (hbw.cell (p := ⟨g, o + k * 2 + 1, none⟩) hg).trans e2
    have a0 := hA.cell 0
    have a1 := hA.cell 1
    simp at a0 a1 e1 e2
    have hyes := Lib.hid (show s1 = a → s2 = b → cnt (a, b) (l.take (k + 1)) = c + 1 by rintro rfl rfl; rw [hst, cnt_append, cnt_cons_same, ← hcc'.out]; rfl)
    have hno := Lib.hid (show ((s1, s2) : Int × Int) ≠ (a, b) → cnt (a, b) (l.take (k + 1)) = c by intro hne; rw [hst, cnt_append, cnt_cons_other hne, ← hcc'.out]; rfl)
    clear hs hst
    cases h1 : (s1 == a)
    · go_wp2
      go_quiet (fail)
      go_wp2
      go_roundw
      case rel => exact ⟨k + 1, c, by omega, by go_num, rfl, (hno.out (by intro e; cases e; simp at h1)).symm, below_drewN hbw nq, hA.drewN nq⟩
      case measure => simp [intOf]; omega
    · cases h2 : (s2 == b)
      · go_wp2
        go_quiet (fail)
        go_wp2
        go_roundw
        case rel => exact ⟨k + 1, c, by omega, by go_num, rfl, (hno.out (by intro e; cases e; simp at h2)).symm, below_drewN hbw nq, hA.drewN nq⟩
        case measure => simp [intOf]; omega
      · go_wp2
        go_quiet (fail)
        go_wp2
        go_roundw
        case rel => exact ⟨k + 1, c + 1, by omega, by go_num, by go_num, (hyes.out (by simpa using h1) (by simpa using h2)).symm, below_drewN hbw nq, hA.drewN nq⟩
        case measure => simp [intOf]; omega
  · obtain rfl : k = N := by omega
    have he : c = cnt (a, b) l := by rw [hcc'.out, ← hN'.out, List.take_length]
    have he' := Lib.hid he
    clear he
    go_wp2
    go_ret
    exact ⟨ret_int (by rw [he'.out]), hbw⟩
theorem unlike_at {α : Type} [DecidableEq α] {xs ys : List α} {k : Nat} {s t : α} (hs : xs[k]? = some s) (ht : ys[k]? = some t) (h : s ≠ t) : decide (xs = ys) = false := by
 simp only [decide_eq_false_iff_not]
 rintro rfl
 rw [hs] at ht
 cases ht
 exact h rfl
theorem unlike_len {α : Type} [DecidableEq α] {xs ys : List α} (h : xs.length ≠ ys.length) : decide (xs = ys) = false := by
 simp only [decide_eq_false_iff_not]
 rintro rfl
 exact h rfl
theorem alike_all {α : Type} [DecidableEq α] {xs ys : List α} {N : Nat} (h1 : xs.length = N) (h2 : ys.length = N) (h : xs.take N = ys.take N) : decide (xs = ys) = true := by
 rw [← h1, List.take_length, h1, ← h2, List.take_length] at h
 simpa using h
theorem take_getT {α : Type} {l : List α} {k : Nat} {s : α} (h : l[k]? = some s) : l.take (k + 1) = l.take k ++ [s] := by rw [List.take_add_one, h]; rfl
theorem alike_succ {α : Type} {xs ys : List α} {k : Nat} {s t : α} (hs : xs[k]? = some s) (ht : ys[k]? = some t) (h : xs.take k = ys.take k) (e : s = t) : xs.take (k + 1) = ys.take (k + 1) := by
 rw [take_getT hs, take_getT ht, h, e]
set_option maxRecDepth 100000 in
set_option maxHeartbeats 1000000 in
theorem Same_any (sv tv : Value) (xs ys : List (Int × Int)) (hx : xs.length ≤ 140737488351232) (w : World) (hI : Row w.heap.size w sv xs) (hJ : Row w.heap.size w tv ys) :
 Calls Tryz.prog 58 #[sv, tv] w fun e w' => e = .returned (.bool (decide (xs = ys))) ∧ Below w.heap.size w w' := by
 obtain ⟨x, N, cap, rfl, hN, hx0, hc1, hc2⟩ := hI.opened
 obtain ⟨y, M, cap2, rfl, hM, hy0, hc3, hc4⟩ := hJ.opened
 rw [hN.out] at hx
 have hI' := Lib.hid hI
 have hJ' := Lib.hid hJ
 clear hI hJ
 by_cases hl : N = M
 · subst hl
   go_enter Tryz.func58, Tryz.ntmps58
   go_wp2
   go_loopw [5] (fun i wr => ∃ k : Nat, k ≤ N ∧ i = .int .i64 k ∧ Hid (xs.take k = ys.take k) ∧ Below w.heap.size w wr) (fun i _ => N - (intOf i).toNat)
   case atStart => exact ⟨0, by omega, rfl, Lib.hid (by simp), Below.refl _ _⟩
   case round =>
    obtain ⟨k, hk, rfl, hag, hbw⟩ := hrel
    by_cases hlt : k < N
    · obtain ⟨s, hs, _⟩ := drop_get (l := xs) (k := k) (by rw [hN.out]; exact hlt)
      obtain ⟨t, ht, _⟩ := drop_get (l := ys) (k := k) (by rw [hM.out]; exact hlt)
      obtain ⟨g, o, rfl, hg, e1, e2⟩ := Row.stop hI'.out hs
      obtain ⟨g2, o2, rfl, hg2, e3, e4⟩ := Row.stop hJ'.out ht
      have e1 := (hbw.cell (p := ⟨g, o + k * 2, none⟩) hg).trans e1
      have e2 := (hbw.cell (p := ⟨g, o + k * 2 + 1, none⟩) hg).trans e2
      have e3 := (hbw.cell (p := ⟨g2, o2 + k * 2, none⟩) hg2).trans e3
      have e4 := (hbw.cell (p := ⟨g2, o2 + k * 2 + 1, none⟩) hg2).trans e4
      have hno := Lib.hid (unlike_at hs ht)
      have hyes := Lib.hid (alike_succ hs ht hag.out)
      clear hs ht
      obtain ⟨x1, x2⟩ := s
      obtain ⟨y1, y2⟩ := t
      simp at e1 e2 e3 e4
      cases h1 : (x1 == y1)
      · go_wp2
        go_quiet (fail)
        go_wp2
        go_ret
        exact ⟨ret_bool (hno.out (by intro e; cases e; simp at h1)).symm, below_drewN hbw nq⟩
      · cases h2 : (x2 == y2)
        · go_wp2
          go_quiet (fail)
          go_wp2
          go_ret
          exact ⟨ret_bool (hno.out (by intro e; cases e; simp at h2)).symm, below_drewN hbw nq⟩
        · go_wp2
          go_quiet (fail)
          go_wp2
          go_roundw
          case rel => exact ⟨k + 1, by omega, by go_num, Lib.hid (hyes.out (Prod.ext (by simpa using h1) (by simpa using h2))), below_drewN hbw nq⟩
          case measure => simp [intOf]; omega
    · obtain rfl : k = N := by omega
      go_wp2
      go_ret
      exact ⟨ret_bool (alike_all hN.out hM.out hag.out).symm, hbw⟩
 · have hd := Lib.hid (unlike_len (xs := xs) (ys := ys) (by rw [hN.out, hM.out]; exact hl))
   have hl' : ((N : Int) == M) = false := by rw [beq_eq_false_iff_ne]; omega
   go_enter Tryz.func58, Tryz.ntmps58
   go_wp2
   go_ret
   exact ⟨ret_bool hd.out.symm, Below.refl _ _⟩
theorem wo_succ_no {l : List (Int × Int)} {k : Nat} {s : Int × Int} {r : Int} (h : l[k]? = some s) (hr : s.1 = r) : woL r (l.take (k + 1)) = woL r (l.take k) := by rw [take_get h, wo_append]; simp [woL, hr]
theorem wo_succ_yes {l : List (Int × Int)} {k : Nat} {s : Int × Int} {r : Int} (h : l[k]? = some s) (hr : s.1 ≠ r) : woL r (l.take (k + 1)) = woL r (l.take k) ++ [s] := by rw [take_get h, wo_append]; simp [woL, hr]
theorem wo_take_le (r : Int) (l : List (Int × Int)) (k : Nat) : (woL r (l.take k)).length ≤ k := by
 have := wo_length r (l.take k)
 rw [List.length_take] at this
 omega
theorem ret_two {a b c d : Int} (h : a = b) (h2 : c = d) : Ending.returned (.tuple #[.int .i64 a, .int .i64 c]) = .returned (.tuple #[.int .i64 b, .int .i64 d]) := by rw [h, h2]
end Go.Proofs.YtlbghdiebjldjaaGreatDoor.Route
namespace Go.Proofs.YtlbghdiebjldjaaGreatDoor.Tail
def okB (l : List Oper) (n : Nat) : Bool :=
 decide (n < l.length) &&
 ((List.range n).all fun j => ((l[j]?).map fun o => ((o.guard.map fun g => decide (g.1 < j)).getD true) && o.after.toList.all fun e => decide (e.on < j)).getD false) &&
 ((List.range n).all fun h => (List.range (n + 1)).any fun k => decide (h < k) && ((l[k]?).map fun o => o.after.toList.any fun e => Region.binds .any e && decide (e.on = h)).getD false) &&
 ((List.range (l.length - n)).all fun t => t == 0 || ((l[n + t]?).map fun o => o.after.toList.any fun e => Region.binds .any e && decide (e.on + 1 = n + t)).getD false) &&
 Region.seqB .any l.toArray (l.length - n) n (Array.replicate n true ++ Array.replicate (l.length - n) false)
structure Ok (l : List Oper) (n : Nat) : Prop where
 lt : n < l.length
 head : ∀ j o, j < n → l[j]? = some o → (∀ g, o.guard = some g → g.1 < j) ∧ ∀ e ∈ o.after, e.on < j
 needed : ∀ h, h < n → ∃ k o, h < k ∧ k ≤ n ∧ l[k]? = some o ∧ ∃ e ∈ o.after, Region.binds .any e = true ∧ e.on = h
 tail : ∀ t o, n < t → l[t]? = some o → ∃ e ∈ o.after, Region.binds .any e = true ∧ e.on + 1 = t
 seq : Region.seqB .any l.toArray (l.length - n) n (Array.replicate n true ++ Array.replicate (l.length - n) false) = true
theorem ok_of {l : List Oper} {n : Nat} (h : okB l n = true) : Ok l n := by
 simp only [okB, Bool.and_eq_true, decide_eq_true_eq, List.all_eq_true, List.mem_range] at h
 obtain ⟨⟨⟨⟨h1, h2⟩, h3⟩, h4⟩, h5⟩ := h
 refine ⟨h1, fun j o hj ho => ?_, fun k hk => ?_, fun t o ht ho => ?_, h5⟩
 · have := h2 j hj
   rw [ho] at this
   simp only [Option.map_some, Option.getD_some, Bool.and_eq_true, List.all_eq_true, decide_eq_true_eq] at this
   exact ⟨fun g hg => by have h1 := this.1; rw [hg] at h1; simpa using h1, fun e he => this.2 e (by simpa using he)⟩
 · have h6 := h3 k hk
   rw [List.any_eq_true] at h6
   obtain ⟨i, hi, h7⟩ := h6
   rw [List.mem_range] at hi
   simp only [Bool.and_eq_true, decide_eq_true_eq] at h7
   obtain ⟨h8, h9⟩ := h7
   cases ho : l[i]? with
   | none => rw [ho] at h9; simp at h9
   | some o =>
    rw [ho] at h9
    simp only [Option.map_some, Option.getD_some, List.any_eq_true, Bool.and_eq_true, decide_eq_true_eq] at h9
    obtain ⟨e, he, hb, hon⟩ := h9
    exact ⟨i, o, h8, by omega, ho, e, by simpa using he, hb, hon⟩
 · have hlt : t < l.length := (List.getElem?_eq_some_iff.1 ho).1
   have h6 := h4 (t - n) (by omega)
   rw [show n + (t - n) = t by omega, ho] at h6
   simp only [Option.map_some, Option.getD_some, Bool.or_eq_true, beq_iff_eq, List.any_eq_true, Bool.and_eq_true, decide_eq_true_eq] at h6
   rcases h6 with h6 | ⟨e, he, hb, hon⟩
   · omega
   · exact ⟨e, by simpa using he, hb, hon⟩
variable {P : Program} {l : List Oper} {n : Nat} {C : World → Prop}
structure Fit (l : List Oper) (n : Nat) (lh la : Array Bool) : Prop where
 size : lh.size = n
 sizeAll : la.size = l.length
 same : ∀ j, j < n → la[j]? = lh[j]?
 rest : ∀ j, n ≤ j → j < l.length → la[j]? = some false
 closed : ∀ j o, j < n → la[j]? = some true → l[j]? = some o → ∀ e ∈ o.after, Region.binds .any e = true → la.getD e.on false = true
theorem getD_set {la : Array Bool} {i k : Nat} (h : la.getD k false = true) : (la.setIfInBounds i true).getD k false = true := by
 rw [Array.getD_eq_getD_getElem?] at h ⊢
 rw [Array.getElem?_setIfInBounds]
 by_cases hik : i = k
 · subst hik
   cases hl : la[i]? with
   | none => rw [hl] at h; simp at h
   | some b =>
    have := (Array.getElem?_eq_some_iff.1 hl).1
    simp [this]
 · rw [if_neg hik]
   exact h
theorem Fit.set {lh la : Array Bool} (h : Fit l n lh la) {i : Nat} (hi : i < n) (hr : ∀ o, l[i]? = some o → ∀ e ∈ o.after, Region.binds .any e = true → la.getD e.on false = true) : Fit l n (lh.setIfInBounds i true) (la.setIfInBounds i true) := by
 refine ⟨by simpa using h.size, by simpa using h.sizeAll, fun j hj => ?_, fun j h1 h2 => ?_, fun j o hj ht ho e he hb => ?_⟩
 · have := h.same j hj
   have hs := h.size
   simp only [Array.getElem?_setIfInBounds]
   by_cases hij : i = j
   · subst hij
     have h3 : i < la.size := by
      have e : lh[i]? = some (lh[i]'(by omega)) := Array.getElem?_eq_getElem (by omega)
      rw [e] at this
      exact (Array.getElem?_eq_some_iff.1 this).1
     simp [h3, hs, hi]
   · simp [hij, this]
 · have := h.rest j h1 h2
   rw [Array.getElem?_setIfInBounds, if_neg (by omega)]
   exact this
 · apply getD_set
   by_cases hij : i = j
   · subst hij
     exact hr o ho e he hb
   · rw [Array.getElem?_setIfInBounds, if_neg hij] at ht
     exact h.closed j o hj ht ho e he hb
theorem stuck (hk : Ok l n) {lh la : Array Bool} (hf : Fit l n lh la) : ∀ (m h : Nat), h < n → n - h ≤ m → la.getD h true = false → n ∉ Region.ready .any l.toArray la
 | 0, h, hh, hm, _ => by omega
 | m + 1, h, hh, hm, hu => by
  obtain ⟨k, o, h1, h2, ho, e, he, hb, hon⟩ := hk.needed h hh
  have hu' : la.getD h false = false := by
   rw [Array.getD_eq_getD_getElem?] at hu ⊢
   cases hl : la[h]? with
   | none => rfl
   | some b => rw [hl] at hu; simpa using hu
  by_cases hkn : k = n
  · subst hkn
    intro hr
    rw [mem_ready] at hr
    obtain ⟨_, o', ho', hall⟩ := hr
    have e1 : o' = o := by
     rw [show l.toArray[k]? = l[k]? by simp] at ho'
     rw [ho] at ho'
     exact (Option.some.inj ho').symm
    subst e1
    have := hall e he hb
    rw [hon, hu'] at this
    cases this
  · have hkl : k < n := by omega
    refine stuck hk hf m k hkl (by omega) ?_
    cases hv : la[k]? with
    | none =>
     have := hk.lt
     rw [Array.getElem?_eq_none_iff, hf.sizeAll] at hv
     omega
    | some b =>
     rw [Array.getD_eq_getD_getElem?, hv]
     cases b
     · rfl
     · have := hf.closed k o hkl hv ho e he hb
       rw [hon, hu'] at this
       cases this
theorem qOp_all (hk : Ok l n) {i : Nat} (hi : i < n) {K : Act → Prop} {a : Act} (h : qOp P (l.take n).toArray C i K a) : qOp P l.toArray C i K a := by
 have e : (l.take n).toArray[i]? = l.toArray[i]? := by simp [hi]
 unfold qOp at h ⊢
 rw [e] at h
 cases ho : l.toArray[i]? with
 | none => rw [ho] at h; exact h
 | some o =>
  rw [ho] at h
  have hg := (hk.head i o hi (by simpa using ho)).1
  have hw : Region.wanted o (yielded (l.take n).toArray a.tmps) = Region.wanted o (yielded l.toArray a.tmps) := by
   unfold Region.wanted
   cases hgo : o.guard with
   | none => rfl
   | some g =>
    have hlt := hg g hgo
    have e2 : (l.take n).toArray[g.1]? = l.toArray[g.1]? := by simp [show g.1 < n by omega]
    have e3 : yielded (l.take n).toArray a.tmps g.1 = yielded l.toArray a.tmps g.1 := by unfold yielded; rw [e2]
    simp only [e3]
  dsimp only at h ⊢
  rw [hw] at h
  exact h
theorem least {p : Nat → Bool} : ∀ (n : Nat), (∃ j, j < n ∧ p j = false) → ∃ j, j < n ∧ p j = false ∧ ∀ k, k < j → p k = true
 | 0, ⟨j, hj, _⟩ => absurd hj (by omega)
 | n + 1, ⟨j, hj, hp⟩ => by
  by_cases h : ∃ k, k < n ∧ p k = false
  · obtain ⟨k, h1, h2, h3⟩ := least n h
    exact ⟨k, by omega, h2, h3⟩
  · have hjn : j = n := by
     apply Classical.byContradiction
     intro hne
     exact h ⟨j, by omega, hp⟩
    subst hjn
    refine ⟨j, hj, hp, fun k hk => ?_⟩
    cases hpk : p k
    · exact absurd ⟨k, hk, hpk⟩ h
    · rfl
theorem tail_any (hk : Ok l n) {Qa : Act → Prop} {Q : Exit → Act → World → Prop} (hQ : ∀ a w, C w → Qa a → wpList P l.toArray Q (l.drop n) a w) :
 ∀ (fuel : Nat) (lh la : Array Bool) (a : Act) (w : World), C w → Fit l n lh la → lh.toList.count false = fuel → wpAnyQ P .any (l.take n).toArray C Qa fuel lh a → wpAny P .any l.toArray Q (fuel + (l.length - n)) la a w
 | 0, lh, la, a, w, hw, hf, hc, h => by
  have hall : ∀ j, j < n → la[j]? = some true := by
   intro j hj
   rw [hf.same j hj]
   have hlt : j < lh.size := by rw [hf.size]; exact hj
   rw [Array.getElem?_eq_getElem hlt]
   cases hb : lh[j]
   · exfalso
     have : false ∈ lh.toList := by rw [← hb]; simp
     have := List.count_pos_iff.2 this
     omega
   · rfl
  have hla : la = Array.replicate n true ++ Array.replicate (l.length - n) false := by
   apply Array.ext_getElem?
   intro j
   by_cases h1 : j < n
   · rw [hall j h1, Array.getElem?_append_left (by simpa using h1)]
     simp [h1]
   · rw [Array.getElem?_append_right (by simpa using (by omega : n ≤ j))]
     by_cases h2 : j < l.length
     · rw [hf.rest j (by omega) h2, Array.getElem?_replicate]
       simp
       omega
     · rw [Array.getElem?_eq_none (by rw [hf.sizeAll]; omega), Array.getElem?_eq_none (by simp; omega)]
  subst hla
  have := wpAny_of_seq (P := P) (md := .any) (ops := l.toArray) (Q' := Q) (l.drop n) n (Array.replicate n true ++ Array.replicate (l.length - n) false) a w (fun j => by simp [List.getElem?_drop]) (by simpa using hk.seq) (hQ a w hw h.2)
  simpa using this
 | fuel + 1, lh, la, a, w, hw, hf, hc, h => by
  have hsome : ∃ j, j < n ∧ lh.getD j true = false := by
   have : false ∈ lh.toList := List.count_pos_iff.1 (by omega)
   obtain ⟨j, hj, hb⟩ := List.getElem_of_mem this
   have hj' : j < lh.size := by simpa using hj
   refine ⟨j, by rw [← hf.size]; exact hj', ?_⟩
   simp only [Array.getElem_toList] at hb
   simp [hj', hb]
  have hgd : ∀ j, j < n → la.getD j true = lh.getD j true := fun j hj => by
   have := hf.same j hj
   rw [Array.getD_eq_getD_getElem?, Array.getD_eq_getD_getElem?, this]
  have hgd' : ∀ j, j < n → la.getD j false = lh.getD j false := fun j hj => by
   have := hf.same j hj
   rw [Array.getD_eq_getD_getElem?, Array.getD_eq_getD_getElem?, this]
  have hboth : ∀ j, j < n → lh.getD j false = lh.getD j true := fun j hj => by
   have hlt : j < lh.size := by rw [hf.size]; exact hj
   simp [hlt]
  obtain ⟨j, hj, hpj, hmin⟩ := least (p := fun j => lh.getD j true) n hsome
  have hready : j ∈ Region.ready .any l.toArray la := by
   rw [mem_ready]
   obtain ⟨o, ho⟩ : ∃ o, l[j]? = some o := ⟨l[j]'(by have := hk.lt; omega), List.getElem?_eq_getElem (by have := hk.lt; omega)⟩
   refine ⟨by rw [hgd j hj]; exact hpj, o, by simpa using ho, fun e he _ => ?_⟩
   have h1 := (hk.head j o hj ho).2 e he
   rw [hgd' _ (by omega), hboth _ (by omega)]
   exact hmin _ h1
  have key : (Region.ready .any l.toArray la = [] → Q .normal a w) ∧ ∀ i ∈ Region.ready .any l.toArray la, wpOp P l.toArray Q i (wpAny P .any l.toArray Q (fuel + (l.length - n)) (la.setIfInBounds i true)) a w := by
   refine ⟨fun h0 => (by rw [h0] at hready; cases hready), fun i hi => ?_⟩
   rw [mem_ready] at hi
   obtain ⟨hi0, o, ho, hall⟩ := hi
   have ho' : l[i]? = some o := by simpa using ho
   have hin : i < n := by
    apply Classical.byContradiction
    intro hni
    by_cases hin0 : i = n
    · subst hin0
      exact stuck hk hf i j hj (by omega) (by rw [hgd j hj]; exact hpj) (mem_ready.2 ⟨hi0, o, ho, hall⟩)
    · obtain ⟨e, he, hb, hon⟩ := hk.tail i o (by omega) ho'
      have h1 := hall e he hb
      have hlt : i < l.length := (List.getElem?_eq_some_iff.1 ho').1
      have h2 := hf.rest e.on (by omega) (by omega)
      rw [Array.getD_eq_getD_getElem?, h2] at h1
      cases h1
   have hih : i ∈ Region.ready .any (l.take n).toArray lh := by
    rw [mem_ready]
    refine ⟨by rw [← hgd i hin]; exact hi0, o, by simp [hin, ho'], fun e he hb => ?_⟩
    have h1 := (hk.head i o hin ho').2 e he
    rw [← hgd' _ (by omega)]
    exact hall e he hb
   refine wpOp_of_qOp hw (fun a' w' hw' hK => ?_) (qOp_all hk hin (h.2 i hih))
   refine tail_any hk hQ fuel _ _ a' w' hw' (hf.set hin (fun o1 ho1 e he hb => by rw [ho'] at ho1; cases ho1; exact hall e he hb)) ?_ hK
   have hlt : i < lh.toList.length := by simpa [hf.size] using hin
   have hfalse : lh.toList[i] = false := by
    have h2 : lh.getD i true = false := by rw [← hgd i hin]; exact hi0
    have hlt' : i < lh.size := by simpa using hlt
    simpa [hlt'] using h2
   rw [Array.toList_setIfInBounds, List.count_set hlt, hfalse, hc]
   simp
  rw [show fuel + 1 + (l.length - n) = (fuel + (l.length - n)) + 1 by omega]
  exact key
theorem wp_region_quiet_tail {id : Nat} {Q : Exit → Act → World → Prop} {a : Act} {w : World} (n : Nat) (hm : P.follows .mixedOrders = true) (hB : Region.lexB .any (l.take n).toArray = true) (hT : okB l n = true) (hC : C { w with drawn := w.drawn + 1 })
 (h : wpQuiet P (l.take n).toArray C (fun a' => ∀ w', C w' → wpList P l.toArray Q (l.drop n) a' w') (l.take n) a) : (Code.region id l.toArray true).wp P Q a w := by
 have hk := ok_of hT
 simp only [Region.lexB, Bool.and_eq_true] at hB
 have hlen : (l.take n).length = n := by simp; have := hk.lt; omega
 have h1 := wpAnyQ_lex (P := P) (C := C) (md := .any) (ops := (l.take n).toArray) hB.1 (l.take n) 0 (Array.replicate n false) a (by simp) (by simpa [hlen] using hB.2) h
 refine wp_region_any hm ?_
 have h2 := tail_any (P := P) (Q := Q) hk (Qa := fun a' => ∀ w', C w' → wpList P l.toArray Q (l.drop n) a' w') (fun a w hw h => h w hw) (l.take n).length (Array.replicate n false) (Array.replicate l.length false) a { w with drawn := w.drawn + 1 } hC
  ⟨by simp, by simp, fun j hj => by have := hk.lt; rw [Array.getElem?_replicate, Array.getElem?_replicate, if_pos hj, if_pos (by omega)], fun j h1 h2 => by simp [h2], fun j o hj ht => by rw [Array.getElem?_replicate] at ht; split at ht <;> cases ht⟩ (by simp [hlen]) h1
 rw [hlen, show n + (l.length - n) = l.length by have := hk.lt; omega] at h2
 simpa using h2
open Go.Sort Go.RowKit in
theorem wp_region_below_tail {id : Nat} {Q : Exit → Act → World → Prop} {a : Act} {w : World} (n : Nat) (hm : P.follows .mixedOrders = true) (hB : Region.lexB .any (l.take n).toArray = true) (hT : okB l n = true)
 (h : wpQuiet P (l.take n).toArray (fun w' => ∃ p : Regrown, w' = grow (redrawn w p.d) p.os) (fun a' => ∀ w', (∃ p : Regrown, w' = grow (redrawn w p.d) p.os) → wpList P l.toArray Q (l.drop n) a' w') (l.take n) a) : (Code.region id l.toArray true).wp P Q a w :=
 wp_region_quiet_tail (C := fun w' => ∃ p : Regrown, w' = grow (redrawn w p.d) p.os) n hm hB hT ⟨⟨w.drawn + 1, #[]⟩, by rw [grow_empty]; rfl⟩ h
end Go.Proofs.YtlbghdiebjldjaaGreatDoor.Tail

/-
  What memory holds of a row of stops: a slice that may begin anywhere.
-/
import Derived.Test.YtkfienjlmnbonaaMem
import Derived.Test.YtkfienjlmnbonaaRows
import Derived.WalkKit
import Derived.WalkSpells
import Derived.ProofKit
import Derived.Outline
import Derived.Deep.QuietTactic
import Derived.BigQuiet
import Derived.BigRegion
import Derived.Deep.RegionHeld3
import Derived.Deep.AppendLies
import Derived.Deep.Cut
import Derived.Deep.CutRange
import Derived.Deep.CutBlock
import Derived.Lib.QuietBelow
import Derived.Lib.Hide
import Derived.Lib.MinMax
import Derived.Laws.AppendOwnNone
import Derived.ArgAppend
import Derived.StillTailTactics
import Derived.WalkLawsBesides
import Derived.Maps.OwnIn
import Derived.Maps.AppendAt
import Derived.DataShut
namespace Go.Proofs.Ytkfienjlmnbonaa.Route
open Go.RowKit Go.Proofs.Ytkfienjlmnbonaa.Mem
set_option linter.unusedVariables false

theorem ret_int {k : IntKind} {a b : Int} (h : a = b) : Ending.returned (.int k a) = .returned (.int k b) := by rw [h]
theorem ret_bool {a b : Bool} (h : a = b) : Ending.returned (.bool a) = .returned (.bool b) := by rw [h]
theorem below_grow {n : Nat} {A B C : World} {row : Option Nat} (h : Below n A B) (hg : B.grownBy C row) (hn : n ≤ B.heap.size) (hr : ∀ r, row = some r → n ≤ r) : Below n A C := h.grown hg hn hr

/-- A number of 64 bits. -/
def I64 (r : Int) : Prop := -9223372036854775808 ≤ r ∧ r ≤ 9223372036854775807
theorem I64.wf {r : Int} (h : I64 r) : (Lit.int .i64 r).wf = true := (Lit.wf_int_iff _ _).2 ⟨by have := h.1; simp [IntKind.min, IntKind.bits, IntKind.signed]; omega, by have := h.2; simp [IntKind.max, IntKind.bits, IntKind.signed]; omega⟩
def Nums (l : List (Int × Int)) : Prop := ∀ s ∈ l, I64 s.1 ∧ I64 s.2

/-- The slice v holds just these values, one a cell or m a cell, in a block below B. -/
def RowB (B : Nat) (W : World) (v : Value) (m : Nat) (rows : List (List Value)) : Prop :=
  ∃ x cap, v = .slice x rows.length cap ∧ rows.length ≤ cap ∧ cap ≤ maxLen ∧ (x = none → rows = [] ∧ cap = 0) ∧
    ∀ j r, rows[j]? = some r → ∃ g o, x = some ⟨g, o, none⟩ ∧ g < B ∧ ∀ k u, r[k]? = some u → W.cell? ⟨g, o + j * m + k, none⟩ = some u
theorem RowB.keep {B C : Nat} {W W' : World} {v : Value} {m : Nat} {rows : List (List Value)} (h : RowB B W v m rows) (hb : Below C W W') (hB : B ≤ C) : RowB B W' v m rows := by
  obtain ⟨x, cap, rfl, h1, h2, h0, h3⟩ := h
  refine ⟨x, cap, rfl, h1, h2, h0, fun j r hj => ?_⟩
  obtain ⟨g, o, rfl, hg, hc⟩ := h3 j r hj
  exact ⟨g, o, rfl, hg, fun k u hk => (hb.cell (p := ⟨g, o + j * m + k, none⟩) (by show g < C; omega)).trans (hc k u hk)⟩
theorem RowB.more {B C : Nat} {W : World} {v : Value} {m : Nat} {rows : List (List Value)} (h : RowB B W v m rows) (hB : B ≤ C) : RowB C W v m rows := by
  obtain ⟨x, cap, rfl, h1, h2, h0, h3⟩ := h
  refine ⟨x, cap, rfl, h1, h2, h0, fun j r hj => ?_⟩
  obtain ⟨g, o, rfl, hg, hc⟩ := h3 j r hj
  exact ⟨g, o, rfl, by omega, hc⟩
theorem RowB.on {W W' : World} {v : Value} {m : Nat} {rows : List (List Value)} (h : RowB W.heap.size W v m rows) (hb : Below W.heap.size W W') : RowB W'.heap.size W' v m rows := (h.keep hb (Nat.le_refl _)).more hb.size
theorem RowB.row {B : Nat} {W : World} {x : Option Addr} {n cap m : Nat} {rows : List (List Value)} (h : RowB B W (.slice x n cap) m rows) {j : Nat} {r : List Value} (hj : rows[j]? = some r) :
    ∃ g o, x = some ⟨g, o, none⟩ ∧ g < B ∧ ∀ k u, r[k]? = some u → W.cell? ⟨g, o + j * m + k, none⟩ = some u := by
  obtain ⟨x', cap', e, _, _, _, h3⟩ := h
  cases e
  exact h3 j r hj

def stV (s : Int × Int) : List Value := [.int .i64 s.1, .int .i64 s.2]
def inV (r : Int) : List Value := [.int .i64 r]
/-- A row of stops; a row of numbers. -/
def Row (B : Nat) (W : World) (v : Value) (l : List (Int × Int)) : Prop := RowB B W v 2 (l.map stV)
def Ints (B : Nat) (W : World) (v : Value) (l : List Int) : Prop := RowB B W v 1 (l.map inV)
def flatS (l : List (Int × Int)) : List Value := (l.map stV).flatten
def flatI (l : List Int) : List Value := (l.map inV).flatten
theorem flatS_snoc (l : List (Int × Int)) (s : Int × Int) : flatS (l ++ [s]) = flatS l ++ [.int .i64 s.1, .int .i64 s.2] := by simp [flatS, stV]
theorem flatI_snoc (l : List Int) (s : Int) : flatI (l ++ [s]) = flatI l ++ [.int .i64 s] := by simp [flatI, inV]
theorem flatS_append (a b : List (Int × Int)) : flatS (a ++ b) = flatS a ++ flatS b := by simp [flatS]
theorem flatS_length (l : List (Int × Int)) : (flatS l).length = l.length * 2 := by
  induction l with
  | nil => rfl
  | cons s l ih =>
    have : flatS (s :: l) = stV s ++ flatS l := by simp [flatS]
    rw [this, List.length_append, ih]
    simp [stV]
    omega
theorem flatI_length (l : List Int) : (flatI l).length = l.length * 1 := by
  induction l with
  | nil => rfl
  | cons s l ih =>
    have : flatI (s :: l) = inV s ++ flatI l := by simp [flatI]
    rw [this, List.length_append, ih]
    simp [inV]
    omega
theorem flatS_one {l : List (Int × Int)} : ∀ u ∈ flatS l, u.oneCell' = true := by
  intro u hu
  simp only [flatS, List.mem_flatten, List.mem_map] at hu
  obtain ⟨r, ⟨s, _, rfl⟩, hu⟩ := hu
  simp only [stV, List.mem_cons, List.not_mem_nil, or_false] at hu
  rcases hu with rfl | rfl <;> rfl
theorem flat_get {α : Type} {m : Nat} : ∀ {rows : List (List α)}, (∀ r ∈ rows, r.length = m) → ∀ j r, rows[j]? = some r → ∀ k u, r[k]? = some u → rows.flatten[j * m + k]? = some u
  | [], _, j, r, hj, _, _, _ => by simp at hj
  | r0 :: rows, hm, j, r, hj, k, u, hk => by
    have h0 := hm r0 (List.mem_cons_self ..)
    rw [List.flatten_cons]
    cases j with
    | zero =>
      simp at hj
      subst hj
      have := (List.getElem?_eq_some_iff.1 hk).1
      rw [List.getElem?_append_left (by omega)]
      simpa using hk
    | succ j =>
      have hj' : rows[j]? = some r := by simpa using hj
      have ih := flat_get (fun r hr => hm r (List.mem_cons_of_mem _ hr)) j r hj' k u hk
      rw [List.getElem?_append_right (by rw [h0, Nat.succ_mul]; omega), h0, show (j + 1) * m + k - m = j * m + k by rw [Nat.succ_mul]; omega]
      exact ih
theorem flat_of {α : Type} {m : Nat} (hm : 0 < m) : ∀ {rows : List (List α)}, (∀ r ∈ rows, r.length = m) → ∀ i u, rows.flatten[i]? = some u → ∃ j k r, i = j * m + k ∧ rows[j]? = some r ∧ r[k]? = some u
  | [], _, i, u, h => by simp at h
  | r0 :: rows, hl, i, u, h => by
    have h0 := hl r0 (List.mem_cons_self ..)
    rw [List.flatten_cons] at h
    rcases Nat.lt_or_ge i r0.length with hi | hi
    · rw [List.getElem?_append_left hi] at h
      exact ⟨0, i, r0, by omega, rfl, h⟩
    · rw [List.getElem?_append_right hi] at h
      obtain ⟨j, k, r, e, h1, h2⟩ := flat_of hm (fun r hr => hl r (List.mem_cons_of_mem _ hr)) _ u h
      exact ⟨j + 1, k, r, by rw [Nat.succ_mul]; omega, by simpa using h1, h2⟩

theorem RowB.nil (B : Nat) (W : World) (m : Nat) : RowB B W (.slice none 0 0) m [] := ⟨none, 0, rfl, Nat.le_refl _, Nat.zero_le _, fun _ => ⟨rfl, rfl⟩, fun j r hj => by simp at hj⟩
/-- A block that holds rows one behind the other. -/
theorem RowB.of_at {B : Nat} {W : World} {g m cap : Nat} {t : TypeId} {cs : Array Value} {rows : List (List Value)} (h : At W g t cs) (hg : g < B) (hm : ∀ r ∈ rows, r.length = m) (hcs : ∀ (i : Nat) (u : Value), rows.flatten[i]? = some u → cs[i]? = some u) (hc : rows.length ≤ cap) (hcap : cap ≤ maxLen) :
    RowB B W (.slice (some ⟨g, 0, none⟩) rows.length cap) m rows :=
  ⟨_, cap, rfl, hc, hcap, fun e => (by cases e), fun j r hj => ⟨g, 0, rfl, hg, fun k u hk => by
    rw [Nat.zero_add]
    exact (h.cell _).trans (hcs _ _ (flat_get hm j r hj k u hk))⟩⟩
theorem RowB.of_owns {B : Nat} {W : World} {base m n : Nat} {e : TypeId} {v : Value} {rows : List (List Value)} (h : W.ownsRow base e m v n rows.flatten) (hn : n = rows.length) (hm : ∀ r ∈ rows, r.length = m) (hB : W.heap.size ≤ B) : RowB B W v m rows := by
  subst hn
  obtain ⟨hl, ⟨rfl, h0⟩ | ⟨g, cap, cur, rfl, hb, hg, hc1, hc2, hs, ht⟩⟩ := h
  · obtain rfl : rows = [] := List.eq_nil_of_length_eq_zero h0
    exact .nil B W m
  · refine RowB.of_at (t := e) (cs := cur) hg (Nat.lt_of_lt_of_le (Array.getElem?_eq_some_iff.1 hg).1 hB) hm (fun i u hu => ?_) hc1 hc2
    have hi : i < rows.length * m := by
      have := (List.getElem?_eq_some_iff.1 hu).1
      omega
    rw [← ht, List.getElem?_take_of_lt hi] at hu
    simpa using hu
theorem Row.of_owns {B : Nat} {W : World} {base n : Nat} {e : TypeId} {v : Value} {l : List (Int × Int)} (h : W.ownsRow base e 2 v n (flatS l)) (hn : n = l.length) (hB : W.heap.size ≤ B) : Row B W v l :=
  RowB.of_owns h (by simpa using hn) (fun r hr => by obtain ⟨s, _, rfl⟩ := List.mem_map.1 hr; rfl) hB
theorem Ints.of_owns {B : Nat} {W : World} {base n : Nat} {e : TypeId} {v : Value} {l : List Int} (h : W.ownsRow base e 1 v n (flatI l)) (hn : n = l.length) (hB : W.heap.size ≤ B) : Ints B W v l :=
  RowB.of_owns h (by simpa using hn) (fun r hr => by obtain ⟨s, _, rfl⟩ := List.mem_map.1 hr; rfl) hB
theorem Row.keep {B C : Nat} {W W' : World} {v : Value} {l : List (Int × Int)} (h : Row B W v l) (hb : Below C W W') (hB : B ≤ C) : Row B W' v l := RowB.keep h hb hB
theorem Row.more {B C : Nat} {W : World} {v : Value} {l : List (Int × Int)} (h : Row B W v l) (hB : B ≤ C) : Row C W v l := RowB.more h hB
theorem Row.on {W W' : World} {v : Value} {l : List (Int × Int)} (h : Row W.heap.size W v l) (hb : Below W.heap.size W W') : Row W'.heap.size W' v l := RowB.on h hb
theorem Ints.keep {B C : Nat} {W W' : World} {v : Value} {l : List Int} (h : Ints B W v l) (hb : Below C W W') (hB : B ≤ C) : Ints B W' v l := RowB.keep h hb hB
theorem Ints.on {W W' : World} {v : Value} {l : List Int} (h : Ints W.heap.size W v l) (hb : Below W.heap.size W W') : Ints W'.heap.size W' v l := RowB.on h hb
theorem Row.slice {B : Nat} {W : World} {v : Value} {l : List (Int × Int)} (h : Row B W v l) : ∃ x cap, v = .slice x l.length cap ∧ l.length ≤ cap ∧ cap ≤ maxLen ∧ (x = none → l = [] ∧ cap = 0) := by
  obtain ⟨x, cap, rfl, h1, h2, h0, _⟩ := h
  refine ⟨x, cap, by simp, by simpa using h1, h2, fun e => ?_⟩
  have := h0 e
  simpa using this
theorem Ints.slice {B : Nat} {W : World} {v : Value} {l : List Int} (h : Ints B W v l) : ∃ x cap, v = .slice x l.length cap ∧ l.length ≤ cap ∧ cap ≤ maxLen := by
  obtain ⟨x, cap, rfl, h1, h2, _, _⟩ := h
  exact ⟨x, cap, by simp, by simpa using h1, h2⟩
/-- The k-th stop's cells. -/
theorem Row.stop {B : Nat} {W : World} {x : Option Addr} {n cap : Nat} {l : List (Int × Int)} (h : Row B W (.slice x n cap) l) {k : Nat} {s : Int × Int} (hk : l[k]? = some s) :
    ∃ g o, x = some ⟨g, o, none⟩ ∧ g < B ∧ W.cell? ⟨g, o + k * 2, none⟩ = some (.int .i64 s.1) ∧ W.cell? ⟨g, o + k * 2 + 1, none⟩ = some (.int .i64 s.2) := by
  obtain ⟨g, o, e, hg, hc⟩ := RowB.row h (j := k) (r := stV s) (by rw [List.getElem?_map, hk]; rfl)
  exact ⟨g, o, e, hg, hc 0 _ rfl, hc 1 _ rfl⟩
theorem Ints.number {B : Nat} {W : World} {x : Option Addr} {n cap : Nat} {l : List Int} (h : Ints B W (.slice x n cap) l) {k : Nat} {s : Int} (hk : l[k]? = some s) :
    ∃ g o, x = some ⟨g, o, none⟩ ∧ g < B ∧ W.cell? ⟨g, o + k, none⟩ = some (.int .i64 s) := by
  obtain ⟨g, o, e, hg, hc⟩ := RowB.row h (j := k) (r := inV s) (by rw [List.getElem?_map, hk]; rfl)
  exact ⟨g, o, e, hg, by simpa using hc 0 _ rfl⟩

theorem owns_below {W W' : World} {base : Nat} {e : TypeId} {size n : Nat} {v : Value} {xs : List Value} (h : W.ownsRow base e size v n xs) (hb : Below W.heap.size W W') : W'.ownsRow base e size v n xs := by
  obtain ⟨hl, h1 | ⟨g, cap, cur, rfl, hg1, hg, hr⟩⟩ := h
  · exact ⟨hl, .inl h1⟩
  · exact ⟨hl, .inr ⟨g, cap, cur, rfl, hg1, (hb.block g (Array.getElem?_eq_some_iff.1 hg).1).trans hg, hr⟩⟩
theorem owns_row {W : World} {base : Nat} {e : TypeId} {size n : Nat} {v : Value} {xs : List Value} (h : W.ownsRow base e size v n xs) : ∀ r, v.ownBlock = some r → base ≤ r := by
  obtain ⟨hl, ⟨rfl, h0⟩ | ⟨g, cap, cur, rfl, hb, hg, hc1, hc2, hs, ht⟩⟩ := h
  · intro r e; cases e
  · intro r e
    simp only [Value.ownBlock, Option.some.injEq] at e
    omega

theorem info_parts {t : TypeId} {n bytes : Nat} {z : Value} (h : (Try.prog.info? t).map (fun i => (i.zero, i.size, i.bytes)) = some (some z, n, bytes)) :
    ∃ i, Try.prog.info? t = some i ∧ i.zero = some z ∧ i.size = n ∧ i.bytes = bytes := by
  cases hi : Try.prog.info? t with
  | none => rw [hi] at h; simp at h
  | some i =>
    rw [hi] at h
    simp at h
    exact ⟨i, rfl, h.1, h.2.1, h.2.2⟩
theorem info_int : (Try.prog.info? 3).map (fun i => (i.zero, i.size, i.bytes)) = some (some (.int .i64 0), 1, 8) := by kernel_rfl
theorem drop_cons {α : Type} {l : List α} {k : Nat} {x : α} {rest : List α} (h : l.drop k = x :: rest) : k < l.length ∧ l[k]? = some x ∧ l.drop (k + 1) = rest := by
  have h1 : k < l.length := by
    rcases Nat.lt_or_ge k l.length with h1 | h1
    · exact h1
    · rw [List.drop_eq_nil_of_le h1] at h; cases h
  have h2 := List.drop_eq_getElem_cons h1
  rw [h] at h2
  cases h2
  exact ⟨h1, List.getElem?_eq_getElem h1, rfl⟩
theorem drop_nil {α : Type} {l : List α} {k : Nat} (h : l.drop k = []) : l.length ≤ k := List.drop_eq_nil_iff.1 h

end Go.Proofs.Ytkfienjlmnbonaa.Route

/-
  What memory holds of a scene: rows of cells, nothing of a program's text.
-/
import Derived.Test.YtlkijbakfoabaaaDoorSceneClaim
import Derived.Test.YtlkijbakfoabaaaDoorUp
import Derived.LoopNIn
import Derived.Maps.AppendAt
namespace Go.Proofs.YtlkijbakfoabaaaDoor.Scene
open Go.RowKit Go.Shelf Go.Proofs.YtlkijbakfoabaaaDoor.Mem Go.Proofs.YtlkijbakfoabaaaDoor.Up
set_option linter.unusedVariables false

/-- The slice v holds just these rows, of m cells each, in a block below B. -/
def RowB (B : Nat) (W : World) (v : Value) (m : Nat) (rows : List (List Value)) : Prop :=
  ∃ x cap, v = .slice x rows.length cap ∧ rows.length ≤ cap ∧ cap ≤ maxLen ∧
    ∀ j r, rows[j]? = some r → ∃ g o, x = some ⟨g, o, none⟩ ∧ g < B ∧ ∀ k u, r[k]? = some u → W.cell? ⟨g, o + j * m + k, none⟩ = some u
theorem RowB.keep {B C : Nat} {W W' : World} {v : Value} {m : Nat} {rows : List (List Value)} (h : RowB B W v m rows) (hb : Below C W W') (hB : B ≤ C) : RowB B W' v m rows := by
  obtain ⟨x, cap, rfl, h1, h2, h3⟩ := h
  refine ⟨x, cap, rfl, h1, h2, fun j r hj => ?_⟩
  obtain ⟨g, o, rfl, hg, hc⟩ := h3 j r hj
  exact ⟨g, o, rfl, hg, fun k u hk => (hb.cell (p := ⟨g, o + j * m + k, none⟩) (by show g < C; omega)).trans (hc k u hk)⟩
theorem RowB.more {B C : Nat} {W : World} {v : Value} {m : Nat} {rows : List (List Value)} (h : RowB B W v m rows) (hB : B ≤ C) : RowB C W v m rows := by
  obtain ⟨x, cap, rfl, h1, h2, h3⟩ := h
  refine ⟨x, cap, rfl, h1, h2, fun j r hj => ?_⟩
  obtain ⟨g, o, rfl, hg, hc⟩ := h3 j r hj
  exact ⟨g, o, rfl, by omega, hc⟩

theorem RowB.row {B : Nat} {W : World} {x : Option Addr} {n cap m : Nat} {rows : List (List Value)} (h : RowB B W (.slice x n cap) m rows) {j : Nat} {r : List Value} (hj : rows[j]? = some r) :
    ∃ g o, x = some ⟨g, o, none⟩ ∧ g < B ∧ ∀ k u, r[k]? = some u → W.cell? ⟨g, o + j * m + k, none⟩ = some u := by
  obtain ⟨x', cap', e, _, _, h3⟩ := h
  cases e
  exact h3 j r hj
theorem drop_cons {α : Type} {l : List α} {k : Nat} {x : α} {rest : List α} (h : l.drop k = x :: rest) : k < l.length ∧ l[k]? = some x ∧ l.drop (k + 1) = rest := by
  have h1 : k < l.length := by
    rcases Nat.lt_or_ge k l.length with h1 | h1
    · exact h1
    · rw [List.drop_eq_nil_of_le h1] at h; cases h
  have h2 := List.drop_eq_getElem_cons h1
  rw [h] at h2
  cases h2
  exact ⟨h1, List.getElem?_eq_getElem h1, rfl⟩
theorem drop_nil {α : Type} {l : List α} {k : Nat} (h : l.drop k = []) : l.length ≤ k := List.drop_eq_nil_iff.1 h

def rqV (q : Rq) : List Value := [.int .i64 q.fx, .int .i64 q.fy, .int .i64 q.tx, .int .i64 q.ty, .int .i64 q.pe, .int .i64 q.pl, .int .i64 q.de, .int .i64 q.dl, .int .i64 q.ld, .int .i64 q.sv]
def vhV (h : Vh) : List Value := [.int .i64 h.hx, .int .i64 h.hy, .int .i64 h.cp, .int .i64 h.st, .int .i64 h.en]
def ltV (l : Lt) : List Value := [.int .i64 l.req, .int .i64 l.res]
def inV (r : Int) : List Value := [.int .i64 r]

/-- A carrier's two slices. -/
structure CarAt (B : Nat) (W : World) (u : Value × Value) (c : Cr) : Prop where
  fleet : RowB B W u.1 5 (c.fleet.map vhV)
  own : RowB B W u.2 1 (c.own.map inV)
structure CarsAt (B : Nat) (W : World) (v : Value) (us : List (Value × Value)) (cs : List Cr) : Prop where
  len : us.length = cs.length
  row : RowB B W v 2 (us.map fun u => [u.1, u.2])
  car : ∀ (j : Nat) (u : Value × Value) (c : Cr), us[j]? = some u → cs[j]? = some c → CarAt B W u c

/-- A scene's fields hold just that scene. -/
structure SceneAt (B : Nat) (W : World) (vR vC vL vD : Value) (us : List (Value × Value)) (s : Sc) : Prop where
  reqs : RowB B W vR 10 (s.reqs.map rqV)
  cars : CarsAt B W vC us s.cars
  lots : RowB B W vL 2 (s.lots.map ltV)
  draws : ∃ x cap, vD = .slice x s.draws cap ∧ s.draws ≤ cap ∧ cap ≤ maxLen

/-- Its numbers are of 64 bits, and what is owned, and pooled, is not endless. -/
structure Fair (s : Sc) : Prop where
  owns : ∀ c ∈ s.cars, ∀ r ∈ c.own, I64 r
  pooled : ∀ l ∈ s.lots, I64 l.req
  few : (pairsL 0 s.cars).length < 4294967296
  fewL : s.lots.length < 4294967296
  rnum : s.reqs.length ≤ 140737488351232
  cnum : s.cars.length ≤ 140737488351232

theorem CarAt.keep {B C : Nat} {W W' : World} {u : Value × Value} {c : Cr} (h : CarAt B W u c) (hb : Below C W W') (hB : B ≤ C) : CarAt B W' u c := ⟨h.fleet.keep hb hB, h.own.keep hb hB⟩
theorem CarsAt.keep {B C : Nat} {W W' : World} {v : Value} {us : List (Value × Value)} {cs : List Cr} (h : CarsAt B W v us cs) (hb : Below C W W') (hB : B ≤ C) : CarsAt B W' v us cs :=
  ⟨h.len, h.row.keep hb hB, fun j u c hu hc => (h.car j u c hu hc).keep hb hB⟩
theorem SceneAt.keep {B C : Nat} {W W' : World} {vR vC vL vD : Value} {us : List (Value × Value)} {s : Sc} (h : SceneAt B W vR vC vL vD us s) (hb : Below C W W') (hB : B ≤ C) : SceneAt B W' vR vC vL vD us s :=
  ⟨h.reqs.keep hb hB, h.cars.keep hb hB, h.lots.keep hb hB, h.draws⟩
theorem CarsAt.more {B C : Nat} {W : World} {v : Value} {us : List (Value × Value)} {cs : List Cr} (h : CarsAt B W v us cs) (hB : B ≤ C) : CarsAt C W v us cs :=
  ⟨h.len, h.row.more hB, fun j u c hu hc => ⟨(h.car j u c hu hc).fleet.more hB, (h.car j u c hu hc).own.more hB⟩⟩
theorem SceneAt.more {B C : Nat} {W : World} {vR vC vL vD : Value} {us : List (Value × Value)} {s : Sc} (h : SceneAt B W vR vC vL vD us s) (hB : B ≤ C) : SceneAt C W vR vC vL vD us s :=
  ⟨h.reqs.more hB, h.cars.more hB, h.lots.more hB, h.draws⟩
theorem CarsAt.get {B : Nat} {W : World} {v : Value} {us : List (Value × Value)} {cs : List Cr} (h : CarsAt B W v us cs) {k : Nat} {q : Cr} (hq : cs[k]? = some q) :
    ∃ xF capF xO capO, us[k]? = some (.slice xF q.fleet.length capF, .slice xO q.own.length capO) ∧ q.fleet.length ≤ capF ∧ capF ≤ maxLen ∧ q.own.length ≤ capO ∧ capO ≤ maxLen ∧
      (us.map fun u => [u.1, u.2])[k]? = some [.slice xF q.fleet.length capF, .slice xO q.own.length capO] := by
  have hlt : k < us.length := by rw [h.len]; exact (List.getElem?_eq_some_iff.1 hq).1
  obtain ⟨u, hu⟩ : ∃ u, us[k]? = some u := ⟨us[k]'hlt, List.getElem?_eq_getElem hlt⟩
  obtain ⟨fv, ov⟩ := u
  obtain ⟨⟨xF, capF, hF, h1, h2, _⟩, ⟨xO, capO, hO, h3, h4, _⟩⟩ := h.car k _ q hu hq
  simp only [List.length_map] at hF hO h1 h3
  subst hF
  subst hO
  exact ⟨xF, capF, xO, capO, hu, h1, h2, h3, h4, by rw [List.getElem?_map, hu]; rfl⟩

theorem put10 {w : World} {g : Nat} {t : TypeId} {x0 x1 x2 x3 x4 x5 x6 x7 x8 x9 y0 y1 y2 y3 y4 y5 y6 y7 y8 y9 : Value} (h : At w g t #[x0, x1, x2, x3, x4, x5, x6, x7, x8, x9]) :
    At ((((((((((w.setCell ⟨g, 0, none⟩ y0).setCell ⟨g, 1, none⟩ y1).setCell ⟨g, 2, none⟩ y2).setCell ⟨g, 3, none⟩ y3).setCell ⟨g, 4, none⟩ y4).setCell ⟨g, 5, none⟩ y5).setCell ⟨g, 6, none⟩ y6).setCell ⟨g, 7, none⟩ y7).setCell ⟨g, 8, none⟩ y8).setCell ⟨g, 9, none⟩ y9) g t #[y0, y1, y2, y3, y4, y5, y6, y7, y8, y9] := by
  simpa using (((((((((h.put 0 y0).put 1 y1).put 2 y2).put 3 y3).put 4 y4).put 5 y5).put 6 y6).put 7 y7).put 8 y8).put 9 y9

/-- What holds of old blocks alone holds behind a call that leaves these. -/
theorem Old.below {β : Type} {B : Nat} {J : β → World → Prop} (h : Old B J) {s : β} {A A' : World} (hs : J s A) (hb : Below A.heap.size A A') : J s A' :=
  h s A A' none hs ⟨hb.os, hb.tape, hb.output, hb.size, fun k hk _ => hb.block k hk⟩ (fun r e => by cases e)
theorem MapAt.obj {w : World} {b n : Nat} {f : Int → Option Int} (h : MapAt w b n f) : ∃ o, w.heap[b]? = some o ∧ o.isCells = false := by
  obtain ⟨D, ⟨es, clock, h1, _⟩, _⟩ := h
  exact ⟨_, h1, rfl⟩
theorem Old.turned {β : Type} {B b : Nat} {J : β → World → Prop} (h : Old B J) {s : β} {A A' : World} (hs : J s A) (hb : Turned b A A') (hB : B ≤ b) (ho : ∃ o, A.heap[b]? = some o ∧ o.isCells = false) : J s A' :=
  h s A A' (some b) hs ⟨hb.os, hb.tape, hb.output, hb.size, fun k hk hn => hb.block k hk (fun e => hn (by rw [e]))⟩ (fun r e => by cases e; exact ⟨hB, ho⟩)
theorem At.kept {B : Nat} {w v : World} {g : Nat} {t : TypeId} {cs : Array Value} (h : At w g t cs) (hk : Kept B w v) (hg : B ≤ g) : At v g t cs := (hk.same g hg h.inside).trans h
theorem At.turned {b : Nat} {w v : World} {g : Nat} {t : TypeId} {cs : Array Value} (h : At w g t cs) (hk : Turned b w v) (hg : g ≠ b) : At v g t cs := (hk.block g h.inside hg).trans h
theorem MapAt.kept {B : Nat} {w v : World} {b n : Nat} {f : Int → Option Int} (h : MapAt w b n f) (hk : Kept B w v) (hg : B ≤ b) : MapAt v b n f := h.same (hk.same b hg h.inside)

end Go.Proofs.YtlkijbakfoabaaaDoor.Scene

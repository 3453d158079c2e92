import Derived.Test.YteclpblfleakhaaGreatDoorPkCheapMath

namespace Go.Proofs.YteclpblfleakhaaGreatDoor.Slack
open Go.Proofs.YteclpblfleakhaaGreatDoor.Order Go.Proofs.YteclpblfleakhaaGreatDoor.Place Go.Proofs.YteclpblfleakhaaGreatDoor.Window Go.Proofs.YteclpblfleakhaaGreatDoor.When
set_option linter.unusedVariables false
theorem take_succ_at {α : Type} {L : List α} {k : Nat} {q : α} (h : L[k]? = some q) : L.take (k + 1) = L.take k ++ [q] := by rw [List.take_add_one, h]; rfl
theorem pairs_at {v : Vh} {l : List (Int × Int)} {t : List Rq} {i by_ : Int} {k : Nat} (hk : k < l.length) : (pairs (visL t l) i by_)[k]? = some (visN v t l k, bmp i by_ k) := by
 have h : (visL t l)[k]? = some (visN v t l k) := by
  have : k < (visL t l).length := by simpa [visL] using hk
  unfold visN
  rw [List.getElem?_eq_getElem this]
  rfl
 exact pairs_get h
def endK (v : Vh) (l : List (Int × Int)) (t : List Rq) (i by_ : Int) (k : Nat) : Sp := endB (sp0 v) ((pairs (visL t l) i by_).take k)
def okK (v : Vh) (l : List (Int × Int)) (t : List Rq) (i by_ : Int) (k : Nat) : Bool := okBs (sp0 v) ((pairs (visL t l) i by_).take k)
theorem okK_next {v : Vh} {l : List (Int × Int)} {t : List Rq} {i by_ : Int} {k : Nat} (hk : k < l.length) : okK v l t i by_ (k + 1) = (okK v l t i by_ k && decide (beB (endK v l t i by_ k) (visN v t l k) (bmp i by_ k) ≤ (visN v t l k).wl)) := by
 unfold okK endK
 rw [take_succ_at (pairs_at (v := v) hk), okBs_snoc]
theorem okK_all {v : Vh} {l : List (Int × Int)} {t : List Rq} {i by_ : Int} : fromB v l t i by_ = (okK v l t i by_ l.length && decide (arV (endK v l t i by_ l.length) (homeV v) ≤ v.en)) := by
 unfold fromB okK endK
 rw [List.take_of_length_le (by rw [pairs_length]; simp [visL])]
end Go.Proofs.YteclpblfleakhaaGreatDoor.Slack
namespace Go.Proofs.YteclpblfleakhaaGreatDoor.Slack
open Go.RowKit Go.Sort Go.Proofs.YteclpblfleakhaaGreatDoor.Mem Go.Proofs.YteclpblfleakhaaGreatDoor.Route Go.Proofs.YteclpblfleakhaaGreatDoor.When
set_option linter.unusedVariables false
theorem flatT_append (A B : List Tm) : flatT (A ++ B) = flatT A ++ flatT B := by simp [flatT]
theorem flatT_cons (q : Tm) (B : List Tm) : flatT (q :: B) = tmC q ++ flatT B := by simp [flatT]
theorem flatT_set {A B : List Tm} {q q' : Tm} {j : Nat} {y : Value} (hj : j < 3) (e : (tmC q).set j y = tmC q') : (flatT (A ++ q :: B)).set (A.length * 3 + j) y = flatT (A ++ q' :: B) := by
 rw [flatT_append, flatT_append, flatT_cons, flatT_cons, List.set_append_right _ _ (by rw [flatT_length]; omega), flatT_length, show A.length * 3 + j - A.length * 3 = j by omega, List.set_append_left _ _ (by simpa [tmC] using hj), e]
theorem split_at {α : Type} {L : List α} {k : Nat} {q : α} (h : L[k]? = some q) : L = L.take k ++ q :: L.drop (k + 1) ∧ (L.take k).length = k := by
 obtain ⟨hk, rfl⟩ := List.getElem?_eq_some_iff.1 h
 exact ⟨by rw [← List.drop_eq_getElem_cons hk, List.take_append_drop], by simp; omega⟩
theorem set_split {α : Type} {L : List α} {k : Nat} {q q' : α} (h : L[k]? = some q) : L.set k q' = L.take k ++ q' :: L.drop (k + 1) := by
 obtain ⟨h1, h2⟩ := split_at h
 conv => lhs; rw [h1]
 rw [List.set_append_right _ _ (by omega), h2, Nat.sub_self]
 rfl
theorem flatT_put {L : List Tm} {k : Nat} {q q' : Tm} (h : L[k]? = some q) {j : Nat} {y : Value} (hj : j < 3) (e : (tmC q).set j y = tmC q') : (flatT L).set (k * 3 + j) y = flatT (L.set k q') := by
 obtain ⟨h1, h2⟩ := split_at h
 have h3 := flatT_set (A := L.take k) (B := L.drop (k + 1)) (q := q) hj e
 rw [h2, ← h1, ← set_split h] at h3
 exact h3
theorem flatT_get {L : List Tm} {k : Nat} {q : Tm} (h : L[k]? = some q) {j : Nat} {u : Value} (hj : (tmC q)[j]? = some u) : (flatT L)[k * 3 + j]? = some u :=
 flat_get (m := 3) (fun r hr => by obtain ⟨s, _, rfl⟩ := List.mem_map.1 hr; rfl) k (tmC q) (by rw [List.getElem?_map, h]; rfl) j u hj
def Own (W : World) (B g N c : Nat) (L : List Tm) : Prop := W.ownsRow B 152 3 (.slice (some ⟨g, 0, none⟩) N c) N (flatT L)
theorem Own.len {W : World} {B g N c : Nat} {L : List Tm} (h : Own W B g N c L) : L.length = N := by
 have := h.1
 rw [flatT_length] at this
 omega
theorem Own.block {W : World} {B g N c : Nat} {L : List Tm} (h : Own W B g N c L) : B ≤ g ∧ g < W.heap.size := World.ownsRow.lt h g rfl
theorem Own.at_ {W : World} {B g N c : Nat} {L : List Tm} (h : Own W B g N c L) : ∃ cs, At W g 152 cs := by
 rcases h.2 with ⟨h1, h0⟩ | ⟨k, cap, cur, h1, hb, hg, h2, h3, _⟩
 · cases h1
 · cases h1; exact ⟨_, hg⟩
theorem Own.keep {W W' : World} {B g N c : Nat} {L : List Tm} (h : Own W B g N c L) (hb : Below W.heap.size W W') : Own W' B g N c L := owns_below h hb
theorem Own.cap {W : World} {B g N c : Nat} {L : List Tm} (h : Own W B g N c L) : N ≤ c ∧ c ≤ maxLen := by
 rcases h.2 with ⟨h1, h0⟩ | ⟨k, cap, cur, h1, hb, hg, h2, h3, _⟩
 · cases h1
 · cases h1; exact ⟨h2, h3⟩
theorem Own.get {W : World} {B g N c : Nat} {L : List Tm} (h : Own W B g N c L) {k : Nat} {q : Tm} (hk : L[k]? = some q) {j : Nat} {u : Value} (hj : (tmC q)[j]? = some u) : W.cell? ⟨g, k * 3 + j, none⟩ = some u := by
 have hl := h.len
 have hk1 := (List.getElem?_eq_some_iff.1 hk).1
 have hj1 : j < 3 := by simpa [tmC] using (List.getElem?_eq_some_iff.1 hj).1
 rw [World.ownsRow.cellAt h _ (by omega)]
 exact flatT_get hk hj
theorem Own.put {W : World} {B g N c : Nat} {L : List Tm} (h : Own W B g N c L) {k : Nat} {q q' : Tm} (hk : L[k]? = some q) {j : Nat} {y : Value} (hj : j < 3) (e : (tmC q).set j y = tmC q') : Own (W.setCell ⟨g, k * 3 + j, none⟩ y) B g N c (L.set k q') := by
 have := (World.ownsRow.stored h (k * 3 + j) y).1
 rw [flatT_put hk hj e] at this
 exact this
theorem Own.free {W : World} {B g N c : Nat} {L : List Tm} (h : Own W B g N c L) (j : Nat) : W.frozen? ⟨g, j, none⟩ = false := World.ownsRow.frozenAt h j
theorem At.off {W W' : World} {g b : Nat} {t : TypeId} {cs : Array Value} (h : At W g t cs) (hg : W.grownBy W' (some b)) (hne : g ≠ b) : At W' g t cs := (hg.block g h.inside (fun e => hne (by cases e; rfl))).trans h
def VC (ks : List Value) (i : Nat) (v : Value) (_ : World) : Prop := ∀ u, ks[i]? = some u → v = u
theorem VC.mk {ks : List Value} {i : Nat} {u v : Value} {w : World} (h : ks[i]? = some u) (e : v = u) : VC ks i v w := fun k hk => by rw [h] at hk; cases hk; exact e
def ZR (s : Nat) (P0 P1 : World → Prop) (done : Nat → Bool) (_ : Nat → Value) (W : World) : Prop := (done s = false → P0 W) ∧ (done s = true → P1 W)
theorem ZR.start {s : Nat} {P0 P1 : World → Prop} {ys : Nat → Value} {W : World} (h : P0 W) : ZR s P0 P1 (fun _ => false) ys W := ⟨fun _ => h, fun h => by cases h⟩
theorem ZR.light {s k : Nat} {P0 P1 : World → Prop} {done : Nat → Bool} {ys ys' : Nat → Value} {W : World} (h : ZR s P0 P1 done ys W) (hk : s ≠ k) : ZR s P0 P1 (Sched.mark done k) ys' W := by
 unfold ZR
 rw [show Sched.mark done k s = done s by simp [Sched.mark, hk]]
 exact h
theorem ZR.put {s : Nat} {P0 P1 : World → Prop} {done : Nat → Bool} {ys' : Nat → Value} {W' : World} (h : P1 W') : ZR s P0 P1 (Sched.mark done s) ys' W' := by
 unfold ZR
 rw [show Sched.mark done s s = true by simp [Sched.mark]]
 exact ⟨fun h => (by cases h), fun _ => h⟩
end Go.Proofs.YteclpblfleakhaaGreatDoor.Slack

import Derived.Test.YteefkijmodcijaaDoorPkFeasCopy
import Derived.Test.YteefkijmodcijaaDoorPkClose

/-
  A row of requests that is copied, and changed one by one in place.
-/
namespace Go.Proofs.YteefkijmodcijaaDoor.Feas
open Go.RowKit Go.Sort Go.Proofs.YteefkijmodcijaaDoor.Mem Go.Proofs.YteefkijmodcijaaDoor.Route Go.Proofs.YteefkijmodcijaaDoor.When
set_option linter.unusedVariables false

theorem rqs_plain {B : Nat} {W : World} {v : Value} {l : List Rq} (h : Rqs B W v l) : Plain v := by
  obtain ⟨x, cap, rfl, h1, h2, h0, _⟩ := h
  cases x with
  | none =>
    have := h0 rfl
    simp at this
    exact .inl (by simp [this])
  | some b => exact .inr ⟨b, _, _, rfl⟩
theorem tms_plain {B : Nat} {W : World} {v : Value} {l : List Tm} (h : Tms B W v l) : Plain v := by
  obtain ⟨x, cap, rfl, h1, h2, h0, _⟩ := h
  cases x with
  | none =>
    have := h0 rfl
    simp at this
    exact .inl (by simp [this])
  | some b => exact .inr ⟨b, _, _, rfl⟩
theorem rqV_len {t : List Rq} : ∀ r ∈ t.map rqV, r.length = 10 := fun r hr => by obtain ⟨s, _, rfl⟩ := List.mem_map.1 hr; rfl
theorem flatQ_length (t : List Rq) : (flatQ t).length = t.length * 10 := by
  induction t with
  | nil => rfl
  | cons q t ih =>
    have : flatQ (q :: t) = rqV q ++ flatQ t := by simp [flatQ]
    rw [this, List.length_append, ih]
    simp [rqV]
    omega
theorem rqs_flat {B : Nat} {W : World} {b : Addr} {N cap : Nat} {l : List Rq} (h : Rqs B W (.slice (some b) N cap) l) : ∀ j u, (flatQ l)[j]? = some u → W.cell? (b.add j) = some u := by
  intro j u hj
  obtain ⟨i, k, r, e, hr, hu⟩ := flat_of (m := 10) (by decide) rqV_len j u hj
  obtain ⟨g, o, hx, hg, hc⟩ := RowB.row h hr
  cases hx
  have := hc k u hu
  rw [add_at, e, show o + (i * 10 + k) = o + i * 10 + k by omega]
  exact this
theorem flatQ_one {t : List Rq} : ∀ u ∈ flatQ t, u.oneCell' = true := by
  intro u hu
  simp only [flatQ, List.mem_flatten, List.mem_map] at hu
  obtain ⟨r, ⟨s, _, rfl⟩, hu⟩ := hu
  simp only [rqV, List.mem_cons, List.not_mem_nil, or_false] at hu
  rcases hu with rfl | rfl | rfl | rfl | rfl | rfl | rfl | rfl | rfl | rfl <;> rfl
theorem flatQ_get {L : List Rq} {k : Nat} {q : Rq} (h : L[k]? = some q) (j : Nat) (hj : j < 10) : (flatQ L)[k * 10 + j]? = (rqV q)[j]? := by
  have hl : (rqV q)[j]? = some ((rqV q)[j]'(by simp [rqV]; omega)) := List.getElem?_eq_getElem _
  rw [hl]
  exact flat_get (m := 10) rqV_len k (rqV q) (by rw [List.getElem?_map, h]; rfl) j _ hl
theorem set_get {L : List Rq} {k : Nat} {q q' : Rq} (h : L[k]? = some q) : (L.set k q')[k]? = some q' := by
  have hk := (List.getElem?_eq_some_iff.1 h).1
  simp [hk]
def pickQ (q : Rq) (x y : Int) : Rq := ⟨q.fx, q.fy, q.tx, q.ty, x, y, q.de, q.dl, q.ld, q.sv⟩
def dropQ (q : Rq) (x y : Int) : Rq := ⟨q.fx, q.fy, q.tx, q.ty, q.pe, q.pl, x, y, q.ld, q.sv⟩
theorem pick_set {L : List Rq} {k : Nat} {q : Rq} (h : L[k]? = some q) (x y : Int) : ((flatQ L).set (k * 10 + 4) (.int .i64 x)).set (k * 10 + 5) (.int .i64 y) = flatQ (L.set k (pickQ q x y)) := by
  unfold flatQ
  rw [flat_setL (f := rqV) (m := 10) (x := q) (x' := pickQ q x q.pl) (v := .int .i64 x) (fun _ => rfl) (i := 4) (by decide) rfl h,
    flat_setL (f := rqV) (m := 10) (x := pickQ q x q.pl) (x' := pickQ q x y) (v := .int .i64 y) (fun _ => rfl) (i := 5) (by decide) rfl (set_get h), List.set_set]
theorem drop_set {L : List Rq} {k : Nat} {q : Rq} (h : L[k]? = some q) (x y : Int) : ((flatQ L).set (k * 10 + 6) (.int .i64 x)).set (k * 10 + 7) (.int .i64 y) = flatQ (L.set k (dropQ q x y)) := by
  unfold flatQ
  rw [flat_setL (f := rqV) (m := 10) (x := q) (x' := dropQ q x q.dl) (v := .int .i64 x) (fun _ => rfl) (i := 6) (by decide) rfl h,
    flat_setL (f := rqV) (m := 10) (x := dropQ q x q.dl) (x' := dropQ q x y) (v := .int .i64 y) (fun _ => rfl) (i := 7) (by decide) rfl (set_get h), List.set_set]

/-- The first k turned, the others as they were. -/
def mixF {α : Type} (f : α → α) (t : List α) (k : Nat) : List α := (t.take k).map f ++ t.drop k
section
variable {α : Type} {f : α → α} {t : List α} {k : Nat} {q : α}
theorem mixF_get (h : t[k]? = some q) : (mixF f t k)[k]? = some q := by
  have hk := (List.getElem?_eq_some_iff.1 h).1
  unfold mixF
  rw [List.getElem?_append_right (by rw [List.length_map, List.length_take]; omega), List.length_map, List.length_take, List.getElem?_drop]
  rw [show k + (k - min k t.length) = k by omega]
  exact h
theorem mixF_next (h : t[k]? = some q) : (mixF f t k).set k (f q) = mixF f t (k + 1) := by
  have hk := (List.getElem?_eq_some_iff.1 h).1
  have hd : t.drop k = q :: t.drop (k + 1) := by
    rw [List.drop_eq_getElem_cons hk]
    congr 1
    exact (List.getElem?_eq_some_iff.1 h).2
  unfold mixF
  rw [hd, List.set_append_right _ _ (by rw [List.length_map, List.length_take]; omega), List.length_map, List.length_take, show k - min k t.length = 0 by omega, List.set_cons_zero, show t.take (k + 1) = t.take k ++ [q] by rw [List.take_add_one, h]; rfl, List.map_append, List.append_assoc]
  rfl
theorem mixF_zero : mixF f t 0 = t := by unfold mixF; simp
theorem mixF_all : mixF f t t.length = t.map f := by unfold mixF; simp
theorem mixF_length : (mixF f t k).length = t.length := by unfold mixF; simp; omega
end
theorem ownsEmptyQ {W : World} {base n : Nat} {e : TypeId} {m : Nat} (hn : n = W.heap.size) (hb : base ≤ n) : (W.alloc (.cells #[] e)).ownsRow base e m (.slice (some ⟨n, 0, none⟩) 0 0) 0 [] := by
  subst hn
  exact ⟨by simp, .inr ⟨W.heap.size, 0, #[], rfl, hb, heap_alloc_new W _, Nat.le_refl _, Nat.zero_le _, by simp, by simp⟩⟩
theorem rowApartAt {W : World} {b : Nat} {e e' : TypeId} {s : Nat} {v : Value} {n g : Nat} {xs : List Value} {cs : Array Value} (h : W.ownsRow b e s v n xs) (h' : At W g e' cs) (ht : e ≠ e') : ∀ r, v.ownBlock = some r → r ≠ g := by
  intro r hr hrg
  subst hrg
  rcases h.2 with ⟨h1, h0⟩ | ⟨k, cap, cur, h1, hb, hg, h2, h3, _⟩
  · rw [h1] at hr; cases hr
  · rw [h1] at hr
    cases hr
    unfold At at h'
    rw [hg] at h'
    cases h'
    exact ht rfl
theorem EmptyAt.keep {B : Nat} {e : TypeId} {m : Nat} {v : Value} {w w' : World} (h : EmptyAt B e m v w) (hb : Below w.heap.size w w') : EmptyAt B e m v w' := by
  obtain ⟨g, h1, h2⟩ := h
  exact ⟨g, h1, owns_below h2 hb⟩
theorem RowAt.keep {B : Nat} {e : TypeId} {m n : Nat} {xs : List Value} {v : Value} {w w' : World} (h : RowAt B e m n xs v w) (hb : Below w.heap.size w w') : RowAt B e m n xs v w' := owns_below h hb
end Go.Proofs.YteefkijmodcijaaDoor.Feas

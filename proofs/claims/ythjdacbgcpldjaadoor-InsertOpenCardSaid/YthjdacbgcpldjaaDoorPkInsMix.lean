import Derived.Test.YthjdacbgcpldjaaDoorPkInsOpenMath
import Derived.Test.YthjdacbgcpldjaaDoorPkInsRightMath
import Derived.Test.YthjdacbgcpldjaaDoorPkInsRight

/-
  A row of requests that is copied, and changed one by one in place: stage 11's.
-/
namespace Go.Proofs.YthjdacbgcpldjaaDoor.Ins
open Go.RowKit Go.Sort Go.Proofs.YthjdacbgcpldjaaDoor.Mem Go.Proofs.YthjdacbgcpldjaaDoor.Route Go.Proofs.YthjdacbgcpldjaaDoor.When Go.Proofs.YthjdacbgcpldjaaDoor.Load Go.Proofs.YthjdacbgcpldjaaDoor.Feas
set_option linter.unusedVariables false

theorem flat_setL {α : Type} {f : α → List Value} {m : Nat} (hf : ∀ x, (f x).length = m) {x x' : α} {i : Nat} {v : Value} (hi : i < m) (hx' : (f x).set i v = f x') : ∀ {l : List α} {j : Nat}, l[j]? = some x → ((l.map f).flatten).set (j * m + i) v = ((l.set j x').map f).flatten
  | [], _, h => by simp at h
  | y :: l, 0, h => by
    have e : y = x := by simpa using h
    subst e
    simp only [List.map_cons, List.flatten_cons, List.set_cons_zero, Nat.zero_mul, Nat.zero_add]
    rw [List.set_append_left _ _ (by rw [hf]; exact hi), hx']
  | y :: l, j + 1, h => by
    have h' : l[j]? = some x := by simpa using h
    have ih := flat_setL hf hi hx' h'
    simp only [List.map_cons, List.flatten_cons, List.set_cons_succ]
    rw [List.set_append_right _ _ (by rw [hf, Nat.add_mul]; omega), hf, show (j + 1) * m + i - m = j * m + i by rw [Nat.add_mul]; omega, ih]
theorem ownsOpen {W : World} {base n cap : Nat} {e : TypeId} {size : Nat} {x : Option Addr} {xs : List Value} (h : W.ownsRow base e size (.slice x n cap) n xs) (hn : 0 < n) : ∃ g : Nat, x = some ⟨g, 0, none⟩ ∧ base ≤ g := by
  obtain ⟨hl, ⟨e, h0⟩ | ⟨g, cap', cur, e, hb, _⟩⟩ := h
  · omega
  · simp only [Value.slice.injEq] at e
    exact ⟨g, e.1, hb⟩
theorem ownsFar {A : World} {base size k : Nat} {e : TypeId} {v : Value} {xs : List Value} (h : A.ownsRow base e size v k xs) {b : Nat} (hb : ∀ r, v.ownBlock = some r → r ≠ b) (i : Nat) (x : Value) : (A.setCell ⟨b, i, none⟩ x).ownsRow base e size v k xs := by
  obtain ⟨hl, h1 | ⟨g, cap, cur, rfl, hg1, hg, hr⟩⟩ := h
  · exact ⟨hl, .inl h1⟩
  · exact ⟨hl, .inr ⟨g, cap, cur, rfl, hg1, (Below.heap_setCell _ _ _ _ (hb g rfl)).trans hg, hr⟩⟩

theorem rqs_plain {B : Nat} {W : World} {v : Value} {l : List Rq} (h : Rqs B W v l) : Plain v := by
  obtain ⟨x, cap, rfl, h1, h2, h0, _⟩ := h
  cases x with
  | none =>
    have := h0 rfl
    simp at this
    exact .inl (by simp [this])
  | some b => exact .inr ⟨b, _, _, rfl⟩
theorem rqV_len {t : List Rq} : ∀ r ∈ t.map rqV, r.length = 10 := fun r hr => by obtain ⟨s, _, rfl⟩ := List.mem_map.1 hr; rfl
theorem flatQ_length (t : List Rq) : (flatQ t).length = t.length * 10 := by
  induction t with
  | nil => rfl
  | cons q t ih =>
    have : flatQ (q :: t) = rqV q ++ flatQ t := by simp [flatQ]
    rw [this, List.length_append, ih]
    simp [rqV]
    omega
theorem rqs_flat {B : Nat} {W : World} {b : Addr} {N cap : Nat} {l : List Rq} (h : Rqs B W (.slice (some b) N cap) l) : ∀ j u, (flatQ l)[j]? = some u → W.cell? (b.add j) = some u := by
  intro j u hj
  obtain ⟨i, k, r, e, hr, hu⟩ := flat_of (m := 10) (by decide) rqV_len j u hj
  obtain ⟨g, o, hx, hg, hc⟩ := RowB.row h hr
  cases hx
  have := hc k u hu
  rw [add_at, e, show o + (i * 10 + k) = o + i * 10 + k by omega]
  exact this
theorem flatQ_one {t : List Rq} : ∀ u ∈ flatQ t, u.oneCell' = true := by
  intro u hu
  simp only [flatQ, List.mem_flatten, List.mem_map] at hu
  obtain ⟨r, ⟨s, _, rfl⟩, hu⟩ := hu
  simp only [rqV, List.mem_cons, List.not_mem_nil, or_false] at hu
  rcases hu with rfl | rfl | rfl | rfl | rfl | rfl | rfl | rfl | rfl | rfl <;> rfl
theorem flatQ_get {L : List Rq} {k : Nat} {q : Rq} (h : L[k]? = some q) (j : Nat) (hj : j < 10) : (flatQ L)[k * 10 + j]? = (rqV q)[j]? := by
  have hl : (rqV q)[j]? = some ((rqV q)[j]'(by simp [rqV]; omega)) := List.getElem?_eq_getElem _
  rw [hl]
  exact flat_get (m := 10) rqV_len k (rqV q) (by rw [List.getElem?_map, h]; rfl) j _ hl
theorem set_get {L : List Rq} {k : Nat} {q q' : Rq} (h : L[k]? = some q) : (L.set k q')[k]? = some q' := by
  have hk := (List.getElem?_eq_some_iff.1 h).1
  simp [hk]
theorem pick_set {L : List Rq} {k : Nat} {q : Rq} (h : L[k]? = some q) (x y : Int) : ((flatQ L).set (k * 10 + 4) (.int .i64 x)).set (k * 10 + 5) (.int .i64 y) = flatQ (L.set k (pickQ q x y)) := by
  unfold flatQ
  rw [flat_setL (f := rqV) (m := 10) (x := q) (x' := pickQ q x q.pl) (v := .int .i64 x) (fun _ => rfl) (i := 4) (by decide) rfl h,
    flat_setL (f := rqV) (m := 10) (x := pickQ q x q.pl) (x' := pickQ q x y) (v := .int .i64 y) (fun _ => rfl) (i := 5) (by decide) rfl (set_get h), List.set_set]
theorem drop_set {L : List Rq} {k : Nat} {q : Rq} (h : L[k]? = some q) (x y : Int) : ((flatQ L).set (k * 10 + 6) (.int .i64 x)).set (k * 10 + 7) (.int .i64 y) = flatQ (L.set k (dropQ q x y)) := by
  unfold flatQ
  rw [flat_setL (f := rqV) (m := 10) (x := q) (x' := dropQ q x q.dl) (v := .int .i64 x) (fun _ => rfl) (i := 6) (by decide) rfl h,
    flat_setL (f := rqV) (m := 10) (x := dropQ q x q.dl) (x' := dropQ q x y) (v := .int .i64 y) (fun _ => rfl) (i := 7) (by decide) rfl (set_get h), List.set_set]

/-- The first k turned, the others as they were. -/
def mixF {α : Type} (f : α → α) (t : List α) (k : Nat) : List α := (t.take k).map f ++ t.drop k
section
variable {α : Type} {f : α → α} {t : List α} {k : Nat} {q : α}
theorem mixF_get (h : t[k]? = some q) : (mixF f t k)[k]? = some q := by
  have hk := (List.getElem?_eq_some_iff.1 h).1
  unfold mixF
  rw [List.getElem?_append_right (by rw [List.length_map, List.length_take]; omega), List.length_map, List.length_take, List.getElem?_drop]
  rw [show k + (k - min k t.length) = k by omega]
  exact h
theorem mixF_next (h : t[k]? = some q) : (mixF f t k).set k (f q) = mixF f t (k + 1) := by
  have hk := (List.getElem?_eq_some_iff.1 h).1
  have hd : t.drop k = q :: t.drop (k + 1) := by
    rw [List.drop_eq_getElem_cons hk]
    congr 1
    exact (List.getElem?_eq_some_iff.1 h).2
  unfold mixF
  rw [hd, List.set_append_right _ _ (by rw [List.length_map, List.length_take]; omega), List.length_map, List.length_take, show k - min k t.length = 0 by omega, List.set_cons_zero, show t.take (k + 1) = t.take k ++ [q] by rw [List.take_add_one, h]; rfl, List.map_append, List.append_assoc]
  rfl
theorem mixF_zero : mixF f t 0 = t := by unfold mixF; simp
theorem mixF_all : mixF f t t.length = t.map f := by unfold mixF; simp
theorem mixF_length : (mixF f t k).length = t.length := by unfold mixF; simp; omega
end
theorem ownsEmptyQ {W : World} {base n : Nat} {e : TypeId} {m : Nat} (hn : n = W.heap.size) (hb : base ≤ n) : (W.alloc (.cells #[] e)).ownsRow base e m (.slice (some ⟨n, 0, none⟩) 0 0) 0 [] := by
  subst hn
  exact ⟨by simp, .inr ⟨W.heap.size, 0, #[], rfl, hb, heap_alloc_new W _, Nat.le_refl _, Nat.zero_le _, by simp, by simp⟩⟩

end Go.Proofs.YthjdacbgcpldjaaDoor.Ins

/-
  A region that draws its order, whose first n operations and callees only read (blocks may be laid), beside which new variables are laid, whenever, and whose others stand in one forced order behind all these: it is walked once, in the text's order; where the new blocks lie is left open. Nothing here speaks of a program.
-/
import Derived.Test.YtkfienjlmnbonaaTail
namespace Go.Proofs.Ytkfienjlmnbonaa.Float
open Go.Sort Go.RowKit
open Go.Proofs.Ytkfienjlmnbonaa.Tail (getD_set least)

/-- A pointer to a block's first cell. -/
def ptr (g : Nat) : Value := .pointer (some ⟨g, 0, none⟩)
/-- The frame, once these new variables are laid: number i at block g. -/
def lay (ds : List Tmp) (done : List (Nat × Nat)) (a : Act) : Act := done.foldl (fun a p => a.put ds[p.1]? (ptr p.2)) a
/-- The worlds that an old one may have grown to. -/
abbrev Cl (w w' : World) : Prop := ∃ p : Regrown, w' = grow (redrawn w p.d) p.os

theorem cl_below {w w' : World} (h : Cl w w') : Below w.heap.size w w' := by
  obtain ⟨p, rfl⟩ := h
  exact below_regrown w p.d p.os
theorem cl_refl (w : World) : Cl w w := regrown_of_below (Below.refl _ _)

/-- The head looks back alone, and not at the new variables; their operations wait for the head alone, if at all; the next one waits for all these, each other one for the one ahead of it. -/
def okB (l : List Oper) (n : Nat) (ds : List Tmp) : Bool :=
  decide (n + ds.length < l.length) && decide ds.Nodup &&
  ((List.range n).all fun j => ((l[j]?).map fun o => ((o.guard.map fun g => decide (g.1 < j)).getD true) && (o.after.toList.all fun e => decide (e.on < j)) && (ds.all fun d => !(o.looksAt l.toArray).contains d && o.dst != some d) &&
    (List.range j).all fun i => ((l[i]?).map fun o' => o.dst == none || o.dst != o'.dst).getD false).getD false) &&
  ((List.range ds.length).all fun i => ((l[n + i]?).map fun o => o.guard.isNone && o.dst == ds[i]? && o.after.toList.all fun e => decide (e.on < n)).getD false) &&
  ((List.range (n + ds.length)).all fun h => (List.range (n + ds.length + 1)).any fun k => decide (h < k) && ((l[k]?).map fun o => o.after.toList.any fun e => Region.binds .any e && decide (e.on = h)).getD false) &&
  ((List.range (l.length - (n + ds.length))).all fun t => t == 0 || ((l[n + ds.length + t]?).map fun o => o.after.toList.any fun e => Region.binds .any e && decide (e.on + 1 = n + ds.length + t)).getD false) &&
  Region.seqB .any l.toArray (l.length - (n + ds.length)) (n + ds.length) (Array.replicate (n + ds.length) true ++ Array.replicate (l.length - (n + ds.length)) false)

structure Ok (l : List Oper) (n : Nat) (ds : List Tmp) : Prop where
  lt : n + ds.length < l.length
  nodup : ds.Nodup
  head : ∀ j o, j < n → l[j]? = some o → (∀ g, o.guard = some g → g.1 < j) ∧ (∀ e ∈ o.after, e.on < j) ∧ (∀ d ∈ ds, d ∉ o.looksAt l.toArray ∧ o.dst ≠ some d)
  apart : ∀ i j o o', i < j → j < n → l[j]? = some o → l[i]? = some o' → o.dst = none ∨ o.dst ≠ o'.dst
  lays : ∀ i o, i < ds.length → l[n + i]? = some o → o.guard = none ∧ o.dst = ds[i]? ∧ ∀ e ∈ o.after, e.on < n
  first : ∀ h, h < n + ds.length → ∃ k o, h < k ∧ k ≤ n + ds.length ∧ l[k]? = some o ∧ ∃ e ∈ o.after, Region.binds .any e = true ∧ e.on = h
  tail : ∀ t o, n + ds.length < t → l[t]? = some o → ∃ e ∈ o.after, Region.binds .any e = true ∧ e.on + 1 = t
  seq : Region.seqB .any l.toArray (l.length - (n + ds.length)) (n + ds.length) (Array.replicate (n + ds.length) true ++ Array.replicate (l.length - (n + ds.length)) false) = true

theorem ok_of {l : List Oper} {n : Nat} {ds : List Tmp} (h : okB l n ds = true) : Ok l n ds := by
  simp only [okB, Bool.and_eq_true, decide_eq_true_eq, List.all_eq_true, List.mem_range] at h
  obtain ⟨⟨⟨⟨⟨⟨h1, h2⟩, h3⟩, h4⟩, h5⟩, h6⟩, h7⟩ := h
  have hd : ∀ j o, j < n → l[j]? = some o → (∀ g, o.guard = some g → g.1 < j) ∧ (∀ e ∈ o.after, e.on < j) ∧ (∀ d ∈ ds, d ∉ o.looksAt l.toArray ∧ o.dst ≠ some d) ∧ ∀ i, i < j → ∀ o', l[i]? = some o' → o.dst = none ∨ o.dst ≠ o'.dst := by
    intro j o hj ho
    have := h3 j hj
    rw [ho] at this
    simp only [Option.map_some, Option.getD_some, Bool.and_eq_true, List.all_eq_true, decide_eq_true_eq, List.mem_range] at this
    obtain ⟨⟨⟨t1, t2⟩, t3⟩, t4⟩ := this
    refine ⟨fun g hg => by rw [hg] at t1; simpa using t1, fun e he => t2 e (by simpa using he), fun d hd => ?_, fun i hi o' ho' => ?_⟩
    · have := t3 d hd
      simp at this
      exact this
    · have := t4 i hi
      rw [ho'] at this
      simp at this
      exact this
  refine ⟨h1, h2, fun j o hj ho => ⟨(hd j o hj ho).1, (hd j o hj ho).2.1, (hd j o hj ho).2.2.1⟩, fun i j o o' hij hj ho ho' => (hd j o hj ho).2.2.2 i hij o' ho', fun i o hi ho => ?_, fun h hh => ?_, fun t o ht ho => ?_, h7⟩
  · have := h4 i hi
    rw [ho] at this
    simp only [Option.map_some, Option.getD_some, Bool.and_eq_true, List.all_eq_true, decide_eq_true_eq, Option.isNone_iff_eq_none, beq_iff_eq] at this
    exact ⟨this.1.1, this.1.2, fun e he => this.2 e (by simpa using he)⟩
  · have h8 := h5 h hh
    rw [List.any_eq_true] at h8
    obtain ⟨i, hi, h9⟩ := h8
    rw [List.mem_range] at hi
    simp only [Bool.and_eq_true, decide_eq_true_eq] at h9
    obtain ⟨h10, h11⟩ := h9
    cases ho : l[i]? with
    | none => rw [ho] at h11; simp at h11
    | some o =>
      rw [ho] at h11
      simp only [Option.map_some, Option.getD_some, List.any_eq_true, Bool.and_eq_true, decide_eq_true_eq] at h11
      obtain ⟨e, he, hb, hon⟩ := h11
      exact ⟨i, o, h10, by omega, ho, e, by simpa using he, hb, hon⟩
  · have hlt : t < l.length := (List.getElem?_eq_some_iff.1 ho).1
    have := h6 (t - (n + ds.length)) (by omega)
    rw [show n + ds.length + (t - (n + ds.length)) = t by omega, ho] at this
    simp only [Option.map_some, Option.getD_some, Bool.or_eq_true, beq_iff_eq, List.any_eq_true, Bool.and_eq_true, decide_eq_true_eq] at this
    rcases this with h | ⟨e, he, hb, hon⟩
    · omega
    · exact ⟨e, by simpa using he, hb, hon⟩

variable {P : Program} {l : List Oper} {n : Nat} {ds : List Tmp}

/-- What the frame holds at the end, where nothing that is to come writes. -/
theorem fin_slot {ops : Array Oper} {C : World → Prop} {af : Act} : ∀ (fuel : Nat) (lh : Array Bool) (a : Act), wpAnyQ P .any ops C (fun a' => a' = af) fuel lh a →
    ∀ d : Tmp, (∀ j o, ops[j]? = some o → lh.getD j true = false → o.dst ≠ some d) → af.tmps[d]? = a.tmps[d]?
  | 0, _, _, h, _, _ => by rw [← h.2]
  | fuel + 1, lh, a, h, d, hd => by
    by_cases hr : Region.ready .any ops lh = []
    · rw [← h.1 hr]
    · obtain ⟨i, hi⟩ := List.exists_mem_of_ne_nil _ hr
      have hq := h.2 i hi
      obtain ⟨hi0, o, ho, _⟩ := mem_ready.1 hi
      have hne : o.dst ≠ some d := hd i o ho hi0
      have hput : ∀ v, (a.put o.dst v).tmps[d]? = a.tmps[d]? := by
        intro v
        unfold Act.put
        cases hdst : o.dst with
        | none => rfl
        | some t =>
          have : t ≠ d := fun e => hne (by rw [hdst, e])
          simp [Array.getElem?_setIfInBounds_ne this]
      have hd' : ∀ j o', ops[j]? = some o' → (lh.setIfInBounds i true).getD j true = false → o'.dst ≠ some d := by
        intro j o' ho' hj
        refine hd j o' ho' ?_
        by_cases hij : i = j
        · subst hij; exact hi0
        · rw [getD_set_ne true hij] at hj; exact hj
      unfold qOp at hq
      rw [ho] at hq
      dsimp only at hq
      split at hq
      · obtain ⟨v, _, hv⟩ := hq
        rw [fin_slot fuel _ _ hv d hd', hput]
      · rw [fin_slot fuel _ _ hq d hd', hput]

theorem put_same {ops : Array Oper} {C C' : World → Prop} {af : Act} {fuel : Nat} {lh : Array Bool} {a : Act} {dst : Option Tmp} {v v' : Value}
    (h : wpAnyQ P .any ops C (fun a' => a' = af) fuel lh (a.put dst v)) (h' : wpAnyQ P .any ops C' (fun a' => a' = af) fuel lh (a.put dst v'))
    (hd : ∀ d, dst = some d → ∀ j o, ops[j]? = some o → lh.getD j true = false → o.dst ≠ some d) : a.put dst v = a.put dst v' := by
  cases dst with
  | none => rfl
  | some d =>
    have e1 := fin_slot fuel lh _ h d (hd d rfl)
    have e2 := fin_slot fuel lh _ h' d (hd d rfl)
    rw [e1] at e2
    simp only [Act.put] at e2 ⊢
    by_cases hlt : d < a.tmps.size
    · have : v = v' := by simpa [hlt] using e2
      rw [this]
    · congr 1
      rw [Array.setIfInBounds_eq_of_size_le (Nat.le_of_not_lt hlt), Array.setIfInBounds_eq_of_size_le (Nat.le_of_not_lt hlt)]

theorem lay_eval {o : Oper} {done : List (Nat × Nat)} {a : Act} (hs : ∀ cs b, o.op ≠ .select cs b) (hd : ∀ d ∈ ds, d ∉ o.looksAt l.toArray) : execOp (lay ds done a).eval o = execOp a.eval o := by
  unfold lay
  induction done generalizing a with
  | nil => rfl
  | cons p done ih =>
    rw [List.foldl_cons, ih]
    exact execOp_put (ops := l.toArray) o hs a _ _ (fun d hd' => hd d (List.mem_of_getElem? hd'))
theorem lay_wanted {o : Oper} {done : List (Nat × Nat)} {a : Act} (hd : ∀ d ∈ ds, d ∉ o.looksAt l.toArray) : Region.wanted o (yielded l.toArray (lay ds done a).tmps) = Region.wanted o (yielded l.toArray a.tmps) := by
  unfold lay
  induction done generalizing a with
  | nil => rfl
  | cons p done ih =>
    rw [List.foldl_cons, ih]
    exact wanted_put (ops := l.toArray) o a _ _ (fun d hd' => hd d (List.mem_of_getElem? hd'))
theorem lay_put {dst : Option Tmp} {done : List (Nat × Nat)} {a : Act} {v : Value} (hd : ∀ d ∈ ds, dst ≠ some d) : (lay ds done a).put dst v = lay ds done (a.put dst v) := by
  unfold lay
  induction done generalizing a with
  | nil => rfl
  | cons p done ih =>
    rw [List.foldl_cons, List.foldl_cons, ih, Act.put_comm]
    intro d hd'
    exact hd d (List.mem_of_getElem? hd')
theorem lay_more {done : List (Nat × Nat)} {a : Act} {i g : Nat} : lay ds (done ++ [(i, g)]) a = (lay ds done a).put ds[i]? (ptr g) := by
  unfold lay
  rw [List.foldl_append]
  rfl

/-- Which have come up: the head's as 'lh' says, the new variables' as 'done' says, none behind. -/
structure Fit (l : List Oper) (n : Nat) (ds : List Tmp) (lh la : Array Bool) (done : List (Nat × Nat)) : Prop where
  size : lh.size = n
  sizeAll : la.size = l.length
  same : ∀ j, j < n → la[j]? = lh[j]?
  laid : ∀ i, i < ds.length → la[n + i]? = some (decide (i ∈ done.map Prod.fst))
  rest : ∀ j, n + ds.length ≤ j → j < l.length → la[j]? = some false
  closed : ∀ (j : Nat) (o : Oper), la[j]? = some true → l[j]? = some o → ∀ e ∈ o.after, Region.binds .any e = true → la.getD e.on false = true

theorem closed_set {l : List Oper} {la : Array Bool} {i : Nat} (h : ∀ (j : Nat) (o : Oper), la[j]? = some true → l[j]? = some o → ∀ e ∈ o.after, Region.binds .any e = true → la.getD e.on false = true)
    (hi : ∀ (o : Oper), l[i]? = some o → ∀ e ∈ o.after, Region.binds .any e = true → la.getD e.on false = true) :
    ∀ (j : Nat) (o : Oper), (la.setIfInBounds i true)[j]? = some true → l[j]? = some o → ∀ e ∈ o.after, Region.binds .any e = true → (la.setIfInBounds i true).getD e.on false = true := by
  intro j o hj ho e he hb
  apply getD_set
  by_cases hij : i = j
  · subst hij
    exact hi o ho e he hb
  · rw [Array.getElem?_setIfInBounds, if_neg hij] at hj
    exact h j o hj ho e he hb

/-- As long as one ahead has not come up, the first behind may not. -/
theorem stuck {l : List Oper} {n : Nat} {ds : List Tmp} (hk : Ok l n ds) {la : Array Bool} (hs : la.size = l.length)
    (hc : ∀ (j : Nat) (o : Oper), la[j]? = some true → l[j]? = some o → ∀ e ∈ o.after, Region.binds .any e = true → la.getD e.on false = true) :
    ∀ (f h : Nat), h < n + ds.length → n + ds.length - h ≤ f → la[h]? = some false → ∀ (o : Oper), l[n + ds.length]? = some o → ¬ ∀ e ∈ o.after, Region.binds .any e = true → la.getD e.on false = true
  | 0, h, hh, hf, _, _, _ => by omega
  | f + 1, h, hh, hf, hu, o, ho => by
    have hlt := hk.lt
    obtain ⟨k, o2, h1, h2, ho2, e, he, hb, hon⟩ := hk.first h hh
    by_cases hkK : k = n + ds.length
    · subst hkK
      have e1 : o2 = o := by rw [ho] at ho2; exact (Option.some.inj ho2).symm
      subst e1
      intro hall
      have h3 := hall e he hb
      rw [Array.getD_eq_getD_getElem?, hon, hu] at h3
      cases h3
    · refine stuck hk hs hc f k (by omega) (by omega) ?_ o ho
      have hkl : k < la.size := by omega
      rw [Array.getElem?_eq_getElem hkl]
      cases hv : la[k]
      · rfl
      · have h3 := hc k o2 (by rw [Array.getElem?_eq_getElem hkl, hv]) ho2 e he hb
        rw [Array.getD_eq_getD_getElem?, hon, hu] at h3
        cases h3

/-- What is known of the world, and of what was laid. -/
structure Laid (w w' : World) (obs : Nat → Obj) (k : Nat) (done : List (Nat × Nat)) : Prop where
  below : Below w.heap.size w w'
  blocks : ∀ p ∈ done, w.heap.size ≤ p.2 ∧ w'.heap[p.2]? = some (obs p.1)
  names : (done.map Prod.fst).Nodup
  apart : (done.map Prod.snd).Nodup
  inside : ∀ p ∈ done, p.1 < k

def cnt (la : Array Bool) (K : Nat) : Nat := (la.toList.take K).count false
theorem cnt_set {la : Array Bool} {K i : Nat} (hi : i < K) (h : la[i]? = some false) : cnt (la.setIfInBounds i true) K + 1 = cnt la K := by
  have hlt : i < la.size := (Array.getElem?_eq_some_iff.1 h).1
  have hv : la[i] = false := (Array.getElem?_eq_some_iff.1 h).2
  unfold cnt
  rw [Array.toList_setIfInBounds, List.take_set, List.count_set (by simp; omega)]
  have hpos : 0 < (la.toList.take K).count false := List.count_pos_iff.2 (List.mem_iff_getElem.2 ⟨i, by simp; omega, by simp [hv]⟩)
  simp [hv]
  omega
theorem cnt_zero {la : Array Bool} {K : Nat} (h : cnt la K = 0) (j : Nat) (hj : j < K) (hl : j < la.size) : la[j]? = some true := by
  rw [Array.getElem?_eq_getElem hl]
  cases hb : la[j]
  · exfalso
    have : 0 < (la.toList.take K).count false := List.count_pos_iff.2 (List.mem_iff_getElem.2 ⟨j, by simp; omega, by simp [hb]⟩)
    unfold cnt at h
    omega
  · rfl
theorem cnt_pos {la : Array Bool} {K f : Nat} (h : cnt la K = f + 1) : ∃ j, j < K ∧ la[j]? = some false := by
  have : false ∈ la.toList.take K := List.count_pos_iff.1 (by unfold cnt at h; omega)
  obtain ⟨j, hj, hb⟩ := List.getElem_of_mem this
  simp at hj hb
  exact ⟨j, by omega, by rw [Array.getElem?_eq_getElem (by omega), hb]⟩

theorem getD_iff {la : Array Bool} {j : Nat} : la.getD j true = false ↔ la[j]? = some false := by
  rw [Array.getD_eq_getD_getElem?]
  cases la[j]? <;> simp
theorem getD_iff' {la : Array Bool} {j : Nat} : la.getD j false = true ↔ la[j]? = some true := by
  rw [Array.getD_eq_getD_getElem?]
  cases la[j]? <;> simp

theorem float_any (hk : Ok l n ds) (hsel : Region.noSelect (l.take n).toArray = true) {obs : Nat → Obj} {w : World} {af : Act} {Q : Exit → Act → World → Prop}
    (hL : ∀ i o, i < ds.length → l[n + i]? = some o → ∀ (a : Act) w', (execOp a.eval o).run P w' = .ok (.value (ptr w'.heap.size)) (w'.alloc (obs i)))
    (hT : ∀ done w', Laid w w' obs ds.length done → (∀ i, i < ds.length → i ∈ done.map Prod.fst) → wpList P l.toArray Q (l.drop (n + ds.length)) (lay ds done af) w') :
    ∀ (fuel : Nat) (lh la : Array Bool) (done : List (Nat × Nat)) (a : Act) (w' : World), Laid w w' obs ds.length done → Fit l n ds lh la done → cnt la (n + ds.length) = fuel →
      (∀ w0, Below w.heap.size w w0 → wpAnyQ P .any (l.take n).toArray (Cl w0) (fun a' => a' = af) (lh.toList.count false) lh a) →
      wpAny P .any l.toArray Q (fuel + (l.length - (n + ds.length))) la (lay ds done a) w'
  | 0, lh, la, done, a, w', hw, hf, hc, hH => by
    have hlt := hk.lt
    have hall : ∀ j, j < n + ds.length → la[j]? = some true := fun j hj => cnt_zero hc j hj (by rw [hf.sizeAll]; omega)
    have hla : la = Array.replicate (n + ds.length) true ++ Array.replicate (l.length - (n + ds.length)) false := by
      apply Array.ext_getElem?
      intro j
      by_cases h1 : j < n + ds.length
      · rw [hall j h1, Array.getElem?_append_left (by simpa using h1)]
        simp [h1]
      · rw [Array.getElem?_append_right (by simpa using (by omega : n + ds.length ≤ j))]
        by_cases h2 : j < l.length
        · rw [hf.rest j (by omega) h2, Array.getElem?_replicate]
          simp
          omega
        · rw [Array.getElem?_eq_none (by rw [hf.sizeAll]; omega), Array.getElem?_eq_none (by simp; omega)]
    have hlh : lh.toList.count false = 0 := by
      rw [List.count_eq_zero]
      intro hm
      obtain ⟨j, hj, hb⟩ := List.getElem_of_mem hm
      have hj' : j < n := by rw [← hf.size]; simpa using hj
      have h1 := hall j (by omega)
      rw [hf.same j hj', Array.getElem?_eq_getElem (by rw [hf.size]; exact hj')] at h1
      simp only [Array.getElem_toList] at hb
      rw [hb] at h1
      cases h1
    have ha := hH w (Below.refl _ _)
    rw [hlh] at ha
    have ha' : a = af := ha.2
    subst ha'
    have hd : ∀ i, i < ds.length → i ∈ done.map Prod.fst := fun i hi => by
      have h1 := hall (n + i) (by omega)
      rw [hf.laid i hi] at h1
      simpa using h1
    subst hla
    have := wpAny_of_seq (P := P) (md := .any) (ops := l.toArray) (Q' := Q) (l.drop (n + ds.length)) (n + ds.length) _ (lay ds done a) w' (fun j => by simp [List.getElem?_drop]) (by simpa using hk.seq) (hT done w' hw hd)
    simpa using this
  | fuel + 1, lh, la, done, a, w', hw, hf, hc, hH => by
    have hlt := hk.lt
    have hgd : ∀ j, j < n → la.getD j true = lh.getD j true := fun j hj => by
      rw [Array.getD_eq_getD_getElem?, Array.getD_eq_getD_getElem?, hf.same j hj]
    have hgd' : ∀ j, j < n → la.getD j false = lh.getD j false := fun j hj => by
      rw [Array.getD_eq_getD_getElem?, Array.getD_eq_getD_getElem?, hf.same j hj]
    obtain ⟨j0, hj0, hj0f⟩ := cnt_pos hc
    -- nothing behind comes up
    have hfront : ∀ i, i ∈ Region.ready .any l.toArray la → i < n + ds.length := by
      intro i hi
      apply Classical.byContradiction
      intro hni
      obtain ⟨hi0, o, ho, hall⟩ := mem_ready.1 hi
      have ho' : l[i]? = some o := by simpa using ho
      by_cases he : i = n + ds.length
      · subst he
        exact stuck hk hf.sizeAll hf.closed _ j0 hj0 (Nat.le_refl _) hj0f o ho' hall
      · obtain ⟨e, he, hb, hon⟩ := hk.tail i o (by omega) ho'
        have h1 := getD_iff'.1 (hall e he hb)
        have hil : i < l.length := (List.getElem?_eq_some_iff.1 ho').1
        rw [hf.rest e.on (by omega) (by omega)] at h1
        cases h1
    -- one may come up
    have hsome : Region.ready .any l.toArray la ≠ [] := by
      by_cases hh : ∃ j, j < n ∧ la.getD j true = false
      · obtain ⟨j, hj, hpj, hmin⟩ := least (p := fun j => la.getD j true) n hh
        have hm : j ∈ Region.ready .any l.toArray la := by
          rw [mem_ready]
          refine ⟨hpj, l[j]'(by omega), by simp [show j < l.length by omega], fun e he _ => ?_⟩
          have h1 := (hk.head j _ hj (List.getElem?_eq_getElem (by omega))).2.1 e he
          have h2 := hmin e.on h1
          rw [getD_iff']
          rw [Array.getD_eq_getD_getElem?] at h2
          have hl2 : e.on < la.size := by rw [hf.sizeAll]; omega
          simp only [Array.getElem?_eq_getElem hl2, Option.getD_some] at h2 ⊢
          rw [h2]
        intro h0
        rw [h0] at hm
        cases hm
      · have hjn : ¬ j0 < n := fun h => hh ⟨j0, h, getD_iff.2 hj0f⟩
        have hm : j0 ∈ Region.ready .any l.toArray la := by
          rw [mem_ready]
          refine ⟨getD_iff.2 hj0f, l[j0]'(by omega), by simp [show j0 < l.length by omega], fun e he _ => ?_⟩
          have h1 := (hk.lays (j0 - n) (l[j0]'(by omega)) (by omega) (by rw [show n + (j0 - n) = j0 by omega]; exact List.getElem?_eq_getElem (by omega))).2.2 e he
          rw [getD_iff']
          have hl2 : e.on < la.size := by rw [hf.sizeAll]; omega
          rw [Array.getElem?_eq_getElem hl2]
          cases hb : la[e.on]
          · exact absurd ⟨e.on, h1, getD_iff.2 (by rw [Array.getElem?_eq_getElem hl2, hb])⟩ hh
          · rfl
        intro h0
        rw [h0] at hm
        cases hm
    rw [show fuel + 1 + (l.length - (n + ds.length)) = (fuel + (l.length - (n + ds.length))) + 1 by omega]
    refine ⟨fun h0 => absurd h0 hsome, fun i hi => ?_⟩
    have hiK := hfront i hi
    obtain ⟨hi0, o, ho, hall⟩ := mem_ready.1 hi
    have ho' : l[i]? = some o := by simpa using ho
    have hif : la[i]? = some false := getD_iff.1 hi0
    have hcs : cnt (la.setIfInBounds i true) (n + ds.length) = fuel := by
      have := cnt_set hiK hif
      omega
    by_cases hin : i < n
    · -- of the head
      have hoh : (l.take n).toArray[i]? = some o := by simp [hin, ho']
      have hlhi : lh[i]? = some false := by rw [← hf.same i hin]; exact hif
      have hcl : lh.toList.count false = (lh.setIfInBounds i true).toList.count false + 1 := by
        have hlt' : i < lh.toList.length := by rw [Array.length_toList, hf.size]; exact hin
        have hv : lh.toList[i] = false := by
          have := (Array.getElem?_eq_some_iff.1 hlhi).2
          simpa using this
        have hpos : 0 < lh.toList.count false := List.count_pos_iff.2 (List.mem_iff_getElem.2 ⟨i, hlt', hv⟩)
        rw [Array.toList_setIfInBounds, List.count_set hlt', hv]
        generalize lh.toList.count false = c at *
        simp
        omega
      have hih : i ∈ Region.ready .any (l.take n).toArray lh := by
        rw [mem_ready]
        refine ⟨by rw [← hgd i hin]; exact hi0, o, hoh, fun e he hb => ?_⟩
        have h1 := (hk.head i o hin ho').2.1 e he
        rw [← hgd' _ (by omega)]
        exact hall e he hb
      have hgu := (hk.head i o hin ho').1
      have hds := (hk.head i o hin ho').2.2
      have hso : ∀ cs b, o.op ≠ .select cs b := fun cs b => Region.noSelect_spec hsel i o cs b hoh
      have hwt : Region.wanted o (yielded (l.take n).toArray a.tmps) = Region.wanted o (yielded l.toArray a.tmps) := by
        unfold Region.wanted
        cases hgo : o.guard with
        | none => rfl
        | some g =>
          have hlt := hgu g hgo
          have e2 : (l.take n).toArray[g.1]? = l.toArray[g.1]? := by simp [show g.1 < n by omega]
          have e3 : yielded (l.take n).toArray a.tmps g.1 = yielded l.toArray a.tmps g.1 := by unfold yielded; rw [e2]
          simp only [e3]
      have hdst : ∀ d, o.dst = some d → ∀ j o', (l.take n).toArray[j]? = some o' → (lh.setIfInBounds i true).getD j true = false → o'.dst ≠ some d := by
        intro d hd j o' hj hun he
        have hjn : j < n := by
          have := (Array.getElem?_eq_some_iff.1 hj).1
          simp at this
          omega
        have hj' : l[j]? = some o' := by simpa [hjn] using hj
        by_cases hij : i = j
        · subst hij
          rw [getD_iff] at hun
          have : i < lh.size := by rw [hf.size]; exact hin
          simp [this] at hun
        · rcases Nat.lt_or_ge i j with h | h
          · rcases hk.apart i j o' o h hjn hj' ho' with h1 | h1
            · rw [h1] at he; cases he
            · exact h1 (by rw [he, hd])
          · rcases hk.apart j i o o' (by omega) hin ho' hj' with h1 | h1
            · rw [h1] at hd; cases hd
            · exact h1 (by rw [he, hd])
      have hq : ∀ w0, Below w.heap.size w w0 → qOp P (l.take n).toArray (Cl w0) i (wpAnyQ P .any (l.take n).toArray (Cl w0) (fun a' => a' = af) ((lh.setIfInBounds i true).toList.count false) (lh.setIfInBounds i true)) a := by
        intro w0 hw0
        have h1 := hH w0 hw0
        rw [hcl] at h1
        exact h1.2 i hih
      have hfit : Fit l n ds (lh.setIfInBounds i true) (la.setIfInBounds i true) done := by
        refine ⟨by simpa using hf.size, by simpa using hf.sizeAll, fun j hj => ?_, fun j hj => ?_, fun j h1 h2 => ?_, closed_set hf.closed (fun o1 ho1 e he hb => by rw [ho'] at ho1; cases ho1; exact hall e he hb)⟩
        · rw [Array.getElem?_setIfInBounds, Array.getElem?_setIfInBounds, hf.same j hj, hf.size, hf.sizeAll]
          by_cases hij : i = j
          · rw [if_pos hij, if_pos hij, if_pos (by omega), if_pos (by omega)]
          · rw [if_neg hij, if_neg hij]
        · rw [Array.getElem?_setIfInBounds, if_neg (by omega)]; exact hf.laid j hj
        · rw [Array.getElem?_setIfInBounds, if_neg (by omega)]; exact hf.rest j h1 h2
      have hnext : ∀ v w2, Below w'.heap.size w' w2 → wpAnyQ P .any (l.take n).toArray (Cl w') (fun a' => a' = af) ((lh.setIfInBounds i true).toList.count false) (lh.setIfInBounds i true) (a.put o.dst v) →
          wpAny P .any l.toArray Q (fuel + (l.length - (n + ds.length))) (la.setIfInBounds i true) ((lay ds done a).put o.dst v) w2 := by
        intro v w2 hb2 hv
        rw [lay_put (fun d hd => (hds d hd).2)]
        have hb := hw.below.trans (hb2.mono hw.below.size)
        refine float_any hk hsel hL hT fuel _ _ done _ w2 ⟨hb, fun p hp => ?_, hw.names, hw.apart, hw.inside⟩ hfit hcs (fun w0 hw0 => ?_)
        · have h1 := hw.blocks p hp
          have h2 : p.2 < w'.heap.size := (Array.getElem?_eq_some_iff.1 h1.2).1
          exact ⟨h1.1, (hb2.block _ h2).trans h1.2⟩
        · have h1 := hq w0 hw0
          unfold qOp at h1
          rw [hoh] at h1
          dsimp only at h1
          split at h1
          · obtain ⟨v0, _, h2⟩ := h1
            rw [put_same hv h2 hdst]
            exact h2
          · rw [put_same hv h1 hdst]
            exact h1
      have hqw := hq w' hw.below
      unfold qOp at hqw
      rw [hoh] at hqw
      dsimp only at hqw
      unfold wpOp
      rw [ho]
      dsimp only
      rw [lay_wanted (fun d hd => (hds d hd).1), ← hwt]
      split
      · rename_i hwant
        rw [if_pos hwant] at hqw
        obtain ⟨v, hv1, hv2⟩ := hqw
        refine .inl (Oper.wp_of_quiet (C := Cl w') (K := fun a2 => a2 = (lay ds done a).put o.dst v) (cl_refl w') (fun a2 w2 hc2 ha2 => ?_) ⟨v, fun w2 hc2 => ?_, rfl⟩)
        · subst ha2
          exact hnext v w2 (cl_below hc2) hv2
        · have := hv1 w2 hc2
          unfold Oper.quietAt at *
          rwa [lay_eval hso (fun d hd => (hds d hd).1)]
      · rename_i hwant
        rw [if_neg hwant] at hqw
        exact hnext undef w' (Below.refl _ _) hqw
    · -- a new variable
      have hii : i - n < ds.length := by omega
      have hoi : l[n + (i - n)]? = some o := by rw [show n + (i - n) = i by omega]; exact ho'
      obtain ⟨hg, hdst, haf⟩ := hk.lays (i - n) o hii hoi
      have hx := hL (i - n) o hii hoi (lay ds done a) w'
      have hnot : i - n ∉ done.map Prod.fst := by
        have h1 := hf.laid (i - n) hii
        rw [show n + (i - n) = i by omega, hif] at h1
        simpa using h1
      unfold wpOp
      rw [ho]
      dsimp only
      have hwant : Region.wanted o (yielded l.toArray (lay ds done a).tmps) = true := by unfold Region.wanted; rw [hg]
      rw [if_pos hwant]
      refine .inl ?_
      unfold Oper.wp
      rw [hx]
      simp only [Oper.upon]
      rw [hdst, ← lay_more]
      refine float_any hk hsel hL hT fuel lh _ _ a _ ⟨hw.below.alloc hw.below.size _, fun p hp => ?_, ?_, ?_, fun p hp => ?_⟩ ⟨hf.size, by simpa using hf.sizeAll, fun j hj => ?_, fun j hj => ?_, fun j h1 h2 => ?_, closed_set hf.closed (fun o1 ho1 e he hb => by rw [ho'] at ho1; cases ho1; exact hall e he hb)⟩ hcs hH
      · rcases List.mem_append.1 hp with hp | hp
        · have h1 := hw.blocks p hp
          have h2 : p.2 < w'.heap.size := (Array.getElem?_eq_some_iff.1 h1.2).1
          exact ⟨h1.1, (Below.heap_alloc w' _ _ h2).trans h1.2⟩
        · have hp' : p = (i - n, w'.heap.size) := by simpa using hp
          subst hp'
          exact ⟨hw.below.size, by show (w'.heap.push _)[w'.heap.size]? = _; simp⟩
      · rw [List.map_append, List.nodup_append]
        refine ⟨hw.names, by simp, fun x hx y hy he => ?_⟩
        have hy' : y = i - n := by simpa using hy
        subst hy' he
        exact hnot hx
      · rw [List.map_append, List.nodup_append]
        refine ⟨hw.apart, by simp, fun x hx y hy he => ?_⟩
        have hy' : y = w'.heap.size := by simpa using hy
        subst hy' he
        obtain ⟨p, hp, hpx⟩ := List.mem_map.1 hx
        have h2 : p.2 < w'.heap.size := (Array.getElem?_eq_some_iff.1 (hw.blocks p hp).2).1
        omega
      · rcases List.mem_append.1 hp with hp | hp
        · exact hw.inside p hp
        · have hp' : p = (i - n, w'.heap.size) := by simpa using hp
          subst hp'
          exact hii
      · rw [Array.getElem?_setIfInBounds, if_neg (by omega)]; exact hf.same j hj
      · rw [Array.getElem?_setIfInBounds]
        by_cases hij : i = n + j
        · rw [if_pos hij, if_pos (by rw [hf.sizeAll]; omega)]
          simp
          right
          omega
        · rw [if_neg hij, hf.laid j hj]
          simp
          omega
      · rw [Array.getElem?_setIfInBounds, if_neg (by omega)]; exact hf.rest j h1 h2

/-- **A region that draws, beside whose quiet head new variables are laid.** -/
theorem wp_region_float {id : Nat} {Q : Exit → Act → World → Prop} {a : Act} {w : World} (n : Nat) (ds : List Tmp) (obs : Nat → Obj) (af : Act) (hm : P.follows .mixedOrders = true) (hB : Region.lexB .any (l.take n).toArray = true) (hO : okB l n ds = true)
    (hL : ∀ i o, i < ds.length → l[n + i]? = some o → ∀ (a : Act) w', (execOp a.eval o).run P w' = .ok (.value (ptr w'.heap.size)) (w'.alloc (obs i)))
    (hW : ∀ w0, Below w.heap.size w w0 → wpQuiet P (l.take n).toArray (fun w' => ∃ p : Regrown, w' = grow (redrawn w0 p.d) p.os) (fun a' => a' = af) (l.take n) a)
    (hT : ∀ done w', Laid w w' obs ds.length done → (∀ i, i < ds.length → i ∈ done.map Prod.fst) → wpList P l.toArray Q (l.drop (n + ds.length)) (lay ds done af) w') : (Code.region id l.toArray true).wp P Q a w := by
  have hk := ok_of hO
  have hlt := hk.lt
  simp only [Region.lexB, Bool.and_eq_true] at hB
  have hlen : (l.take n).length = n := by simp; omega
  refine wp_region_any hm ?_
  have h2 := float_any (P := P) (Q := Q) (w := w) (obs := obs) (af := af) hk hB.1 hL hT (n + ds.length) (Array.replicate n false) (Array.replicate l.length false) [] a { w with drawn := w.drawn + 1 }
    ⟨(Below.refl _ w).drew, fun p hp => (by cases hp), by simp, by simp, fun p hp => (by cases hp)⟩
    ⟨by simp, by simp, fun j hj => by rw [Array.getElem?_replicate, Array.getElem?_replicate, if_pos hj, if_pos (by omega)], fun i hi => by rw [Array.getElem?_replicate, if_pos (by omega)]; simp, fun j h1 h2 => by simp [h2], fun j o hj => by rw [Array.getElem?_replicate] at hj; split at hj <;> cases hj⟩
    (by unfold cnt; simp; omega)
    (fun w0 hw0 => by
      have h1 := wpAnyQ_lex (P := P) (C := Cl w0) (md := .any) (ops := (l.take n).toArray) hB.1 (l.take n) 0 (Array.replicate n false) a (by simp) (by simpa [hlen] using hB.2) (hW w0 hw0)
      rw [hlen] at h1
      simpa using h1)
  rw [show n + ds.length + (l.length - (n + ds.length)) = l.length by omega] at h2
  simpa [lay] using h2

theorem done_one {w w' : World} {obs : Nat → Obj} {done : List (Nat × Nat)} (h : Laid w w' obs 1 done) (hd : ∀ i, i < 1 → i ∈ done.map Prod.fst) : ∃ g, done = [(0, g)] := by
  obtain ⟨_, _, hn, _, hi⟩ := h
  cases done with
  | nil => simp at hd
  | cons p done =>
    have h0 : p.1 = 0 := by have := hi p (by simp); omega
    cases done with
    | nil => exact ⟨p.2, by rw [← h0]⟩
    | cons q done =>
      have h1 : q.1 = 0 := by have := hi q (by simp); omega
      simp [h0, h1] at hn

theorem done_two {w w' : World} {obs : Nat → Obj} {done : List (Nat × Nat)} (h : Laid w w' obs 2 done) (hd : ∀ i, i < 2 → i ∈ done.map Prod.fst) : ∃ g h, done = [(0, g), (1, h)] ∨ done = [(1, h), (0, g)] := by
  obtain ⟨_, _, hn, _, hi⟩ := h
  have d0 := hd 0 (by omega)
  have d1 := hd 1 (by omega)
  cases done with
  | nil => simp at d0
  | cons p done =>
    cases done with
    | nil => simp at d0 d1; omega
    | cons q done =>
      have hp := hi p (by simp)
      have hq := hi q (by simp)
      have hne : p.1 ≠ q.1 := by intro he; simp [he] at hn
      cases done with
      | nil =>
        obtain ⟨p1, p2⟩ := p
        obtain ⟨q1, q2⟩ := q
        simp only at hp hq hne
        by_cases hp0 : p1 = 0
        · subst hp0
          have : q1 = 1 := by omega
          subst this
          exact ⟨p2, q2, .inl rfl⟩
        · have h1 : p1 = 1 := by omega
          have h2 : q1 = 0 := by omega
          subst h1 h2
          exact ⟨q2, p2, .inr rfl⟩
      | cons r done =>
        have hr := hi r (by simp)
        have h1 : p.1 ≠ r.1 := by intro he; simp [he] at hn
        have h2 : q.1 ≠ r.1 := by intro he; simp [he] at hn
        omega

/-- The same, one new variable. -/
theorem wp_region_float1 {id : Nat} {Q : Exit → Act → World → Prop} {a : Act} {w : World} (n : Nat) (d : Tmp) (ob : Obj) (af : Act) (hm : P.follows .mixedOrders = true) (hB : Region.lexB .any (l.take n).toArray = true) (hO : okB l n [d] = true)
    (hL : ∀ o, l[n]? = some o → ∀ (a : Act) w', (execOp a.eval o).run P w' = .ok (.value (ptr w'.heap.size)) (w'.alloc ob))
    (hW : ∀ w0, Below w.heap.size w w0 → wpQuiet P (l.take n).toArray (fun w' => ∃ p : Regrown, w' = grow (redrawn w0 p.d) p.os) (fun a' => a' = af) (l.take n) a)
    (hT : ∀ g w', w.heap.size ≤ g → w'.heap[g]? = some ob → Below w.heap.size w w' → wpList P l.toArray Q (l.drop (n + 1)) (af.put (some d) (.pointer (some ⟨g, 0, none⟩))) w') : (Code.region id l.toArray true).wp P Q a w := by
  refine wp_region_float n [d] (fun _ => ob) af hm hB hO (fun i o hi ho => ?_) hW (fun done w' hw hd => ?_)
  · have : i = 0 := by simpa using hi
    subst this
    exact hL o ho
  · obtain ⟨g, rfl⟩ := done_one hw hd
    have h1 := hw.blocks (0, g) (by simp)
    exact hT g w' h1.1 h1.2 hw.below

/-- The same, two new variables. -/
theorem wp_region_float2 {id : Nat} {Q : Exit → Act → World → Prop} {a : Act} {w : World} (n : Nat) (d e : Tmp) (ob oc : Obj) (af : Act) (hm : P.follows .mixedOrders = true) (hB : Region.lexB .any (l.take n).toArray = true) (hO : okB l n [d, e] = true)
    (hL : ∀ o, l[n]? = some o → ∀ (a : Act) w', (execOp a.eval o).run P w' = .ok (.value (ptr w'.heap.size)) (w'.alloc ob))
    (hL2 : ∀ o, l[n + 1]? = some o → ∀ (a : Act) w', (execOp a.eval o).run P w' = .ok (.value (ptr w'.heap.size)) (w'.alloc oc))
    (hW : ∀ w0, Below w.heap.size w w0 → wpQuiet P (l.take n).toArray (fun w' => ∃ p : Regrown, w' = grow (redrawn w0 p.d) p.os) (fun a' => a' = af) (l.take n) a)
    (hT : ∀ g h w', g ≠ h → w.heap.size ≤ g → w.heap.size ≤ h → w'.heap[g]? = some ob → w'.heap[h]? = some oc → Below w.heap.size w w' → wpList P l.toArray Q (l.drop (n + 2)) ((af.put (some d) (.pointer (some ⟨g, 0, none⟩))).put (some e) (.pointer (some ⟨h, 0, none⟩))) w') : (Code.region id l.toArray true).wp P Q a w := by
  have hk := ok_of hO
  refine wp_region_float n [d, e] (fun i => if i = 0 then ob else oc) af hm hB hO (fun i o hi ho => ?_) hW (fun done w' hw hd => ?_)
  · have hi' : i < 2 := by simpa using hi
    by_cases h0 : i = 0
    · subst h0
      exact hL o ho
    · have : i = 1 := by omega
      subst this
      exact hL2 o ho
  · obtain ⟨g, h, he⟩ := done_two hw hd
    have hg : w.heap.size ≤ g ∧ w'.heap[g]? = some ob := by
      have := hw.blocks (0, g) (by rcases he with rfl | rfl <;> simp)
      simpa using this
    have hh : w.heap.size ≤ h ∧ w'.heap[h]? = some oc := by
      have := hw.blocks (1, h) (by rcases he with rfl | rfl <;> simp)
      simpa using this
    have hne : g ≠ h := by
      intro hgh
      have := hw.apart
      rcases he with rfl | rfl <;> simp [hgh] at this
    have hde : d ≠ e := by
      have := hk.nodup
      simpa using this
    have hT' := hT g h w' hne hg.1 hh.1 hg.2 hh.2 hw.below
    rcases he with rfl | rfl
    · exact hT'
    · have e1 : lay [d, e] [(1, h), (0, g)] af = (af.put (some d) (ptr g)).put (some e) (ptr h) := by
        show (af.put (some e) (ptr h)).put (some d) (ptr g) = _
        rw [Act.put_comm]
        intro t ht hc
        cases ht
        cases hc
        exact hde rfl
      rw [e1]
      exact hT'

end Go.Proofs.Ytkfienjlmnbonaa.Float

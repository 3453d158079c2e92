import Derived.Test.YtpefdmkfmcjfnaaPkMsTell

namespace Go.Proofs.Ytpefdmkfmcjfnaa.Sched
open Go.Proofs.Ytpefdmkfmcjfnaa.Tail (Fit least)
def okB (l : List Oper) (n : Nat) : Bool :=
 decide (n < l.length) &&
 ((List.range n).all fun j => ((l[j]?).map fun o => o.after.toList.all fun e => !Region.binds .any e || decide (e.on < j)).getD false) &&
 ((List.range n).all fun h => (List.range (n + 1)).any fun k => decide (h < k) && ((l[k]?).map fun o => o.after.toList.any fun e => Region.binds .any e && decide (e.on = h)).getD false) &&
 ((List.range (l.length - n)).all fun t => t == 0 || ((l[n + t]?).map fun o => o.after.toList.any fun e => Region.binds .any e && decide (e.on + 1 = n + t)).getD false) &&
 Region.seqB .any l.toArray (l.length - n) n (Array.replicate n true ++ Array.replicate (l.length - n) false)
structure Ok (l : List Oper) (n : Nat) : Prop where
 lt : n < l.length
 head : ∀ j o, j < n → l[j]? = some o → ∀ e ∈ o.after, Region.binds .any e = true → e.on < j
 needed : ∀ h, h < n → ∃ k o, h < k ∧ k ≤ n ∧ l[k]? = some o ∧ ∃ e ∈ o.after, Region.binds .any e = true ∧ e.on = h
 tail : ∀ t o, n < t → l[t]? = some o → ∃ e ∈ o.after, Region.binds .any e = true ∧ e.on + 1 = t
 seq : Region.seqB .any l.toArray (l.length - n) n (Array.replicate n true ++ Array.replicate (l.length - n) false) = true
theorem ok_of {l : List Oper} {n : Nat} (h : okB l n = true) : Ok l n := by
 simp only [okB, Bool.and_eq_true, decide_eq_true_eq, List.all_eq_true, List.mem_range] at h
 obtain ⟨⟨⟨⟨h1, h2⟩, h3⟩, h4⟩, h5⟩ := h
 refine ⟨h1, fun j o hj ho => ?_, fun k hk => ?_, fun t o ht ho => ?_, h5⟩
 · have := h2 j hj
   rw [ho] at this
   simp only [Option.map_some, Option.getD_some, List.all_eq_true, Bool.or_eq_true, Bool.not_eq_true', decide_eq_true_eq] at this
   intro e he hb
   rcases this e (by simpa using he) with h6 | h6
   · rw [hb] at h6; cases h6
   · exact h6
 · have h6 := h3 k hk
   rw [List.any_eq_true] at h6
   obtain ⟨i, hi, h7⟩ := h6
   rw [List.mem_range] at hi
   simp only [Bool.and_eq_true, decide_eq_true_eq] at h7
   obtain ⟨h8, h9⟩ := h7
   cases ho : l[i]? with
   | none => rw [ho] at h9; simp at h9
   | some o =>
    rw [ho] at h9
    simp only [Option.map_some, Option.getD_some, List.any_eq_true, Bool.and_eq_true, decide_eq_true_eq] at h9
    obtain ⟨e, he, hb, hon⟩ := h9
    exact ⟨i, o, h8, by omega, ho, e, by simpa using he, hb, hon⟩
 · have hlt : t < l.length := (List.getElem?_eq_some_iff.1 ho).1
   have h6 := h4 (t - n) (by omega)
   rw [show n + (t - n) = t by omega, ho] at h6
   simp only [Option.map_some, Option.getD_some, Bool.or_eq_true, beq_iff_eq, List.any_eq_true, Bool.and_eq_true, decide_eq_true_eq] at h6
   rcases h6 with h6 | ⟨e, he, hb, hon⟩
   · omega
   · exact ⟨e, by simpa using he, hb, hon⟩
def fill : Nat → List Oper → (Nat → Value) → Act → Act
 | _, [], _, a => a
 | k, o :: r, ys, a => fill (k + 1) r ys (a.put o.dst (ys k))
def upd (ys : Nat → Value) (k : Nat) (v : Value) : Nat → Value := fun i => if i = k then v else ys i
def mark (done : Nat → Bool) (k : Nat) : Nat → Bool := fun i => if i = k then true else done i
def apartB : List Oper → Bool
 | [] => true
 | o :: r => (r.all fun o' => o.dst == none || o'.dst != o.dst) && apartB r
theorem put_put (a : Act) (d : Option Tmp) (v v' : Value) : (a.put d v).put d v' = a.put d v' := by
 cases d with
 | none => rfl
 | some t => simp [Act.put]
theorem put_far {a : Act} {d d' : Option Tmp} {v v' : Value} (h : d = none ∨ d' ≠ d) : (a.put d v).put d' v' = (a.put d' v').put d v := by
 cases d with
 | none => rfl
 | some t =>
  cases d' with
  | none => rfl
  | some t' =>
   have : t' ≠ t := by
    rcases h with h | h
    · cases h
    · exact fun e => h (by rw [e])
   exact Act.put_comm a v v' (fun d e e' => this (by cases e; cases e'; rfl))
theorem put_self (a : Act) (d : Option Tmp) : ∃ v, a.put d v = a := by
 cases d with
 | none => exact ⟨undef, rfl⟩
 | some t =>
  refine ⟨a.tmps.getD t undef, ?_⟩
  cases a with
  | mk tmps ds =>
   simp only [Act.put, Act.mk.injEq, and_true]
   apply Array.ext_getElem?
   intro i
   rw [Array.getElem?_setIfInBounds]
   by_cases hi : t = i
   · subst hi
     by_cases hs : t < tmps.size <;> simp [hs]
   · rw [if_neg hi]
theorem fill_put {l : List Oper} : ∀ {k : Nat} {ys : Nat → Value} {a : Act} {d : Option Tmp} {v : Value}, (∀ o ∈ l, d = none ∨ o.dst ≠ d) → (fill k l ys a).put d v = fill k l ys (a.put d v) := by
 induction l with
 | nil => intros; rfl
 | cons o l ih =>
  intro k ys a d v h
  simp only [fill]
  rw [ih (fun o' ho' => h o' (List.mem_cons_of_mem _ ho'))]
  congr 1
  rcases h o List.mem_cons_self with h1 | h1
  · subst h1; rfl
  · exact put_far (Or.inr (fun e => h1 e.symm))
theorem fill_past {l : List Oper} : ∀ {k : Nat} {ys ys' : Nat → Value} {a : Act}, (∀ i, k ≤ i → ys i = ys' i) → fill k l ys a = fill k l ys' a := by
 induction l with
 | nil => intros; rfl
 | cons o l ih =>
  intro k ys ys' a h
  simp only [fill]
  rw [h k (Nat.le_refl _), ih (fun i hi => h i (by omega))]
theorem fill_upd {l : List Oper} : ∀ {k j : Nat} {ys : Nat → Value} {a : Act} {o : Oper} {v : Value}, apartB l = true → l[j]? = some o → (fill k l ys a).put o.dst v = fill k l (upd ys (k + j) v) a := by
 induction l with
 | nil => intro k j ys a o v _ h; simp at h
 | cons o1 l ih =>
  intro k j ys a o v hB h
  simp only [apartB, Bool.and_eq_true, List.all_eq_true, Bool.or_eq_true, beq_iff_eq, bne_iff_ne] at hB
  cases j with
  | zero =>
   have e : o1 = o := by simpa using h
   subst e
   simp only [fill]
   rw [fill_put (fun o' ho' => (hB.1 o' ho')), put_put, fill_past (ys' := upd ys (k + 0) v) (fun i hi => by simp [upd, show i ≠ k by omega])]
   simp [upd]
  | succ j =>
   have h' : l[j]? = some o := by simpa using h
   simp only [fill]
   rw [ih hB.2 h', show k + 1 + j = k + (j + 1) by omega]
   simp [upd]
theorem fill_self (l : List Oper) : ∀ (k : Nat) (a : Act), ∃ ys, fill k l ys a = a := by
 induction l with
 | nil => intro k a; exact ⟨fun _ => undef, rfl⟩
 | cons o l ih =>
  intro k a
  obtain ⟨v, hv⟩ := put_self a o.dst
  obtain ⟨ys, hy⟩ := ih (k + 1) a
  refine ⟨upd ys k v, ?_⟩
  simp only [fill]
  rw [show upd ys k v k = v by simp [upd], hv, fill_past (ys' := ys) (fun i hi => by simp [upd, show i ≠ k by omega]), hy]
variable {P : Program} {l : List Oper} {n : Nat} {Q : Exit → Act → World → Prop}
theorem wpOp_of_list {i : Nat} {o : Oper} {K : Act → World → Prop} {a : Act} {w : World} (ho : l.toArray[i]? = some o) (h : wpList P l.toArray (Exit.then K Q) [o] a w) : wpOp P l.toArray Q i K a w := by
 unfold wpOp
 rw [ho]
 simp only [wpList] at h
 have key : ∀ {o : Oper}, o.wp P a w (wpList P l.toArray (Exit.then K Q) []) (Exit.then K Q) → o.wp P a w K Q := by
  intro o h
  unfold Oper.wp at h ⊢
  generalize (execOp a.eval o).run P w = r at h ⊢
  cases r with
  | ok n w' => cases n <;> exact h
  | halt hl w' => cases hl <;> exact h
 by_cases hw : Region.wanted o (yielded l.toArray a.tmps) = true
 · simp only [hw, if_true] at h ⊢
   exact h.imp key (fun ⟨h1, h2⟩ => ⟨h1, h2⟩)
 · simp only [hw, if_false, Bool.false_eq_true] at h ⊢
   exact h
theorem stuck (hk : Ok l n) {lh la : Array Bool} (hf : Fit l n lh la) : ∀ (m h : Nat), h < n → n - h ≤ m → la.getD h true = false → n ∉ Region.ready .any l.toArray la
 | 0, h, hh, hm, _ => by omega
 | m + 1, h, hh, hm, hu => by
  obtain ⟨k, o, h1, h2, ho, e, he, hb, hon⟩ := hk.needed h hh
  have hu' : la.getD h false = false := by
   rw [Array.getD_eq_getD_getElem?] at hu ⊢
   cases hl : la[h]? with
   | none => rfl
   | some b => rw [hl] at hu; simpa using hu
  by_cases hkn : k = n
  · subst hkn
    intro hr
    rw [mem_ready] at hr
    obtain ⟨_, o', ho', hall⟩ := hr
    have e1 : o' = o := by
     rw [show l.toArray[k]? = l[k]? by simp] at ho'
     rw [ho] at ho'
     exact (Option.some.inj ho').symm
    subst e1
    have := hall e he hb
    rw [hon, hu'] at this
    cases this
  · have hkl : k < n := by omega
    refine stuck hk hf m k hkl (by omega) ?_
    cases hv : la[k]? with
    | none =>
     have := hk.lt
     rw [Array.getElem?_eq_none_iff, hf.sizeAll] at hv
     omega
    | some b =>
     rw [Array.getD_eq_getD_getElem?, hv]
     cases b
     · rfl
     · have := hf.closed k o hkl hv ho e he hb
       rw [hon, hu'] at this
       cases this
def Steps (P : Program) (l : List Oper) (n : Nat) (Q : Exit → Act → World → Prop) (Ext : World → World → Prop) (V : Nat → Value → World → Prop) (Z : (Nat → Bool) → (Nat → Value) → World → Prop) (w0 : World) (a0 : Act) : Nat → List Oper → Prop
 | _, [] => True
 | k, o :: r => (∀ (ys : Nat → Value) (done : Nat → Bool) (w : World), Ext w0 w → done k = false → (∀ i, i < n → done i = true → V i (ys i) w) → (∀ i, (o.after.toList.any fun e => Region.binds .any e && e.on == i) = true → done i = true) → Z done ys w →
  wpList P l.toArray (Exit.then (fun a' w' => ∃ v, a' = (fill 0 (l.take n) ys a0).put o.dst v ∧ Ext w w' ∧ V k v w' ∧ Z (mark done k) (upd ys k v) w') Q) [o] (fill 0 (l.take n) ys a0) w) ∧ Steps P l n Q Ext V Z w0 a0 (k + 1) r
variable {Ext : World → World → Prop} {V : Nat → Value → World → Prop} {Z : (Nat → Bool) → (Nat → Value) → World → Prop} {w0 : World} {a0 : Act}
theorem Steps.at {r : List Oper} : ∀ {k j : Nat} {o : Oper}, Steps P l n Q Ext V Z w0 a0 k r → r[j]? = some o → ∀ (ys : Nat → Value) (done : Nat → Bool) (w : World), Ext w0 w → done (k + j) = false → (∀ i, i < n → done i = true → V i (ys i) w) → (∀ i, (o.after.toList.any fun e => Region.binds .any e && e.on == i) = true → done i = true) → Z done ys w →
 wpList P l.toArray (Exit.then (fun a' w' => ∃ v, a' = (fill 0 (l.take n) ys a0).put o.dst v ∧ Ext w w' ∧ V (k + j) v w' ∧ Z (mark done (k + j)) (upd ys (k + j) v) w') Q) [o] (fill 0 (l.take n) ys a0) w := by
 induction r with
 | nil => intro k j o _ h; simp at h
 | cons o1 r ih =>
  intro k j o hS h
  cases j with
  | zero =>
   have e : o1 = o := by simpa using h
   subst e
   exact hS.1
  | succ j =>
   have h' : r[j]? = some o := by simpa using h
   have := ih hS.2 h'
   rw [show k + 1 + j = k + (j + 1) by omega] at this
   exact this
theorem sched_any (hk : Ok l n) (hA : apartB (l.take n) = true) (htr : ∀ {a b c}, Ext a b → Ext b c → Ext a c) (hV : ∀ {k v w w'}, V k v w → Ext w w' → V k v w') (hS : Steps P l n Q Ext V Z w0 a0 0 (l.take n))
 (hQ : ∀ ys w, Ext w0 w → (∀ i, i < n → V i (ys i) w) → (∃ done : Nat → Bool, (∀ i, i < n → done i = true) ∧ Z done ys w) → wpList P l.toArray Q (l.drop n) (fill 0 (l.take n) ys a0) w) :
 ∀ (fuel : Nat) (lh la : Array Bool) (ys : Nat → Value) (w : World), Ext w0 w → (∀ i, i < n → lh.getD i false = true → V i (ys i) w) → Z (fun i => lh.getD i false) ys w → Fit l n lh la → lh.toList.count false = fuel →
  wpAny P .any l.toArray Q (fuel + (l.length - n)) la (fill 0 (l.take n) ys a0) w
 | 0, lh, la, ys, w, hE, hF, hZ, hf, hc => by
  have hall' : ∀ j, j < n → lh[j]? = some true := by
   intro j hj
   have hlt : j < lh.size := by rw [hf.size]; exact hj
   rw [Array.getElem?_eq_getElem hlt]
   cases hb : lh[j]
   · exfalso
     have : false ∈ lh.toList := by rw [← hb]; simp
     have := List.count_pos_iff.2 this
     omega
   · rfl
  have hall : ∀ j, j < n → la[j]? = some true := fun j hj => by rw [hf.same j hj]; exact hall' j hj
  have hla : la = Array.replicate n true ++ Array.replicate (l.length - n) false := by
   apply Array.ext_getElem?
   intro j
   by_cases h1 : j < n
   · rw [hall j h1, Array.getElem?_append_left (by simpa using h1)]
     simp [h1]
   · rw [Array.getElem?_append_right (by simpa using (by omega : n ≤ j))]
     by_cases h2 : j < l.length
     · rw [hf.rest j (by omega) h2, Array.getElem?_replicate]
       simp
       omega
     · rw [Array.getElem?_eq_none (by rw [hf.sizeAll]; omega), Array.getElem?_eq_none (by simp; omega)]
  subst hla
  have hd : ∀ i, i < n → lh.getD i false = true := fun i hi => by rw [Array.getD_eq_getD_getElem?, hall' i hi]; rfl
  have := wpAny_of_seq (P := P) (md := .any) (ops := l.toArray) (Q' := Q) (l.drop n) n (Array.replicate n true ++ Array.replicate (l.length - n) false) (fill 0 (l.take n) ys a0) w (fun j => by simp [List.getElem?_drop]) (by simpa using hk.seq)
   (hQ ys w hE (fun i hi => hF i hi (hd i hi)) ⟨_, hd, hZ⟩)
  simpa using this
 | fuel + 1, lh, la, ys, w, hE, hF, hZ, hf, hc => by
  have hsome : ∃ j, j < n ∧ lh.getD j true = false := by
   have : false ∈ lh.toList := List.count_pos_iff.1 (by omega)
   obtain ⟨j, hj, hb⟩ := List.getElem_of_mem this
   have hj' : j < lh.size := by simpa using hj
   refine ⟨j, by rw [← hf.size]; exact hj', ?_⟩
   simp only [Array.getElem_toList] at hb
   simp [hj', hb]
  have hgd : ∀ j, j < n → la.getD j true = lh.getD j true := fun j hj => by
   have := hf.same j hj
   rw [Array.getD_eq_getD_getElem?, Array.getD_eq_getD_getElem?, this]
  have hgd' : ∀ j, j < n → la.getD j false = lh.getD j false := fun j hj => by
   have := hf.same j hj
   rw [Array.getD_eq_getD_getElem?, Array.getD_eq_getD_getElem?, this]
  have hboth : ∀ j, j < n → lh.getD j false = lh.getD j true := fun j hj => by
   have hlt : j < lh.size := by rw [hf.size]; exact hj
   simp [hlt]
  obtain ⟨j, hj, hpj, hmin⟩ := least (p := fun j => lh.getD j true) n hsome
  have hready : j ∈ Region.ready .any l.toArray la := by
   rw [mem_ready]
   obtain ⟨o, ho⟩ : ∃ o, l[j]? = some o := ⟨l[j]'(by have := hk.lt; omega), List.getElem?_eq_getElem (by have := hk.lt; omega)⟩
   refine ⟨by rw [hgd j hj]; exact hpj, o, by simpa using ho, fun e he hbb => ?_⟩
   have h1 := hk.head j o hj ho e he hbb
   rw [hgd' _ (by omega), hboth _ (by omega)]
   exact hmin _ h1
  have key : (Region.ready .any l.toArray la = [] → Q .normal (fill 0 (l.take n) ys a0) w) ∧ ∀ i ∈ Region.ready .any l.toArray la, wpOp P l.toArray Q i (wpAny P .any l.toArray Q (fuel + (l.length - n)) (la.setIfInBounds i true)) (fill 0 (l.take n) ys a0) w := by
   refine ⟨fun h0 => (by rw [h0] at hready; cases hready), fun i hi => ?_⟩
   rw [mem_ready] at hi
   obtain ⟨hi0, o, ho, hall⟩ := hi
   have ho' : l[i]? = some o := by simpa using ho
   have hin : i < n := by
    apply Classical.byContradiction
    intro hni
    by_cases hin0 : i = n
    · subst hin0
      exact stuck hk hf i j hj (by omega) (by rw [hgd j hj]; exact hpj) (mem_ready.2 ⟨hi0, o, ho, hall⟩)
    · obtain ⟨e, he, hb, hon⟩ := hk.tail i o (by omega) ho'
      have h1 := hall e he hb
      have hlt : i < l.length := (List.getElem?_eq_some_iff.1 ho').1
      have h2 := hf.rest e.on (by omega) (by omega)
      rw [Array.getD_eq_getD_getElem?, h2] at h1
      cases h1
   have hlti : i < lh.size := by rw [hf.size]; exact hin
   have hfi : lh.getD i false = false := by rw [hboth i hin, ← hgd i hin]; exact hi0
   have ho1 : (l.take n)[i]? = some o := by simp [hin, ho']
   have hst := hS.at ho1 ys (fun i => lh.getD i false) w hE (by simpa using hfi) hF (fun m hm => by
    rw [List.any_eq_true] at hm
    obtain ⟨e, he, hb⟩ := hm
    simp only [Bool.and_eq_true, beq_iff_eq] at hb
    have he' : e ∈ o.after := by simpa using he
    have h1 := hk.head i o hin ho' e he' hb.1
    have h2 := hall e he' hb.1
    rw [hgd' _ (by omega)] at h2
    show lh.getD m false = true
    rw [← hb.2]; exact h2) hZ
   simp only [Nat.zero_add] at hst
   refine wpOp_mono (fun a' w' hK => ?_) (wpOp_of_list ho hst)
   obtain ⟨v, rfl, hE', hv, hZ'⟩ := hK
   rw [fill_upd hA ho1, Nat.zero_add]
   have hset : ∀ m, (lh.setIfInBounds i true).getD m false = if m = i then true else lh.getD m false := by
    intro m
    rw [Array.getD_eq_getD_getElem?, Array.getElem?_setIfInBounds]
    by_cases hm : i = m
    · subst hm; simp [hlti]
    · rw [if_neg hm, if_neg (fun e => hm e.symm), Array.getD_eq_getD_getElem?]
   refine sched_any hk hA htr hV hS hQ fuel _ _ (upd ys i v) w' (htr hE hE') (fun m hm ht => ?_) ?_ (hf.set hin (fun o1 ho1 e he hb => by rw [ho'] at ho1; cases ho1; exact hall e he hb)) ?_
   · rw [hset] at ht
     by_cases hmi : m = i
     · subst hmi; simpa [upd] using hv
     · rw [if_neg hmi] at ht
       simp only [upd, if_neg hmi]
       exact hV (hF m hm ht) hE'
   · have : (fun m => (lh.setIfInBounds i true).getD m false) = mark (fun m => lh.getD m false) i := funext hset
     rw [this]; exact hZ'
   · have hlt : i < lh.toList.length := by simpa using hlti
     have hfalse : lh.toList[i] = false := by
      have h2 : lh.getD i true = false := by rw [← hgd i hin]; exact hi0
      simpa [hlti] using h2
     rw [Array.toList_setIfInBounds, List.count_set hlt, hfalse, hc]
     simp
  rw [show fuel + 1 + (l.length - n) = (fuel + (l.length - n)) + 1 by omega]
  exact key
theorem wp_region_sched {id : Nat} {a : Act} {w : World} (n : Nat) (Ext : World → World → Prop) (V : Nat → Value → World → Prop) (Z : (Nat → Bool) → (Nat → Value) → World → Prop)
 (hm : P.follows .mixedOrders = true) (hT : okB l n = true) (hA : apartB (l.take n) = true)
 (htr : ∀ {a b c}, Ext a b → Ext b c → Ext a c) (hV : ∀ {k v w w'}, V k v w → Ext w w' → V k v w') (h0 : Ext w { w with drawn := w.drawn + 1 }) (hZ : ∀ ys, Z (fun _ => false) ys { w with drawn := w.drawn + 1 })
 (hS : Steps P l n Q Ext V Z w a 0 (l.take n))
 (hQ : ∀ ys w', Ext w w' → (∀ i, i < n → V i (ys i) w') → (∃ done : Nat → Bool, (∀ i, i < n → done i = true) ∧ Z done ys w') → wpList P l.toArray Q (l.drop n) (fill 0 (l.take n) ys a) w') : (Code.region id l.toArray true).wp P Q a w := by
 have hk := ok_of hT
 refine wp_region_any hm ?_
 obtain ⟨ys, hy⟩ := fill_self (l.take n) 0 a
 have hd : ∀ i, (Array.replicate n false).getD i false = false := fun i => by rw [Array.getD_eq_getD_getElem?, Array.getElem?_replicate]; split <;> rfl
 have h2 := sched_any (P := P) (Q := Q) (w0 := w) (Ext := Ext) (V := V) (Z := Z) (a0 := a) hk hA htr hV hS hQ n (Array.replicate n false) (Array.replicate l.length false) ys { w with drawn := w.drawn + 1 } h0
  (fun i _ h => by rw [hd] at h; cases h) (by rw [show (fun i => (Array.replicate n false).getD i false) = fun _ => false from funext hd]; exact hZ ys)
  ⟨by simp, by simp, fun j hj => by have := hk.lt; rw [Array.getElem?_replicate, Array.getElem?_replicate, if_pos hj, if_pos (by omega)], fun j h1 h2 => by simp [h2], fun j o hj ht => by rw [Array.getElem?_replicate] at ht; split at ht <;> cases ht⟩ (by simp)
 rw [hy, show n + (l.length - n) = l.length by have := hk.lt; omega] at h2
 simpa using h2
theorem fill_else : ∀ {l : List Oper} {k : Nat} {ys : Nat → Value} {a : Act} {d : Tmp}, (l.all fun o => o.dst != some d) = true → (fill k l ys a).tmps[d]? = a.tmps[d]?
 | [], _, _, _, _, _ => rfl
 | o :: l, k, ys, a, d, h => by
  simp only [List.all_cons, Bool.and_eq_true, bne_iff_ne] at h
  simp only [fill]
  rw [fill_else h.2]
  cases hd : o.dst with
  | none => rfl
  | some t =>
   have : t ≠ d := fun e => h.1 (by rw [hd, e])
   simp [Act.put, Array.getElem?_setIfInBounds_ne this]
theorem fill_get : ∀ {l : List Oper} {k j : Nat} {ys : Nat → Value} {a : Act} {o : Oper} {d : Tmp}, apartB l = true → l[j]? = some o → o.dst = some d → d < a.tmps.size → (fill k l ys a).tmps[d]? = some (ys (k + j))
 | [], _, _, _, _, _, _, _, h, _, _ => by simp at h
 | o1 :: l, k, j, ys, a, o, d, hA, h, hd, hs => by
  simp only [apartB, Bool.and_eq_true, List.all_eq_true, Bool.or_eq_true, beq_iff_eq, bne_iff_ne] at hA
  cases j with
  | zero =>
   have e : o1 = o := by simpa using h
   subst e
   simp only [fill]
   rw [fill_else (by
    rw [List.all_eq_true]
    intro o' ho'
    rcases hA.1 o' ho' with h1 | h1
    · rw [hd] at h1; cases h1
    · rw [hd] at h1; simpa using h1)]
   simp [Act.put, hd, hs]
  | succ j =>
   have h' : l[j]? = some o := by simpa using h
   simp only [fill]
   rw [fill_get hA.2 h' hd (by cases o1.dst <;> simp [Act.put, hs]), show k + 1 + j = k + (j + 1) by omega]
def StepsA (P : Program) (l : List Oper) (n : Nat) (Q : Exit → Act → World → Prop) (Ext : World → World → Prop) (V : Nat → Value → World → Prop) (Z : (Nat → Bool) → (Nat → Value) → World → Prop) (w0 : World) (a0 : Act) : Nat → List Oper → Prop
 | _, [] => True
 | k, o :: r => (∀ (ys : Nat → Value) (done : Nat → Bool) (w : World) (a : Act), Ext w0 w → done k = false → (∀ i, i < n → done i = true → V i (ys i) w) → (∀ i, (o.after.toList.any fun e => Region.binds .any e && e.on == i) = true → done i = true) → Z done ys w →
  (∀ j d, ((l.take n)[j]?.bind (·.dst)) = some d → d < a0.tmps.size → a.tmps[d]? = some (ys j)) → (∀ d, ((l.take n).all fun o => o.dst != some d) = true → a.tmps[d]? = a0.tmps[d]?) →
  wpList P l.toArray (Exit.then (fun a' w' => ∃ v, a' = a.put o.dst v ∧ Ext w w' ∧ V k v w' ∧ Z (mark done k) (upd ys k v) w') Q) [o] a w) ∧ StepsA P l n Q Ext V Z w0 a0 (k + 1) r
theorem StepsA.steps (hA : apartB (l.take n) = true) : ∀ {r : List Oper} {k : Nat}, StepsA P l n Q Ext V Z w0 a0 k r → Steps P l n Q Ext V Z w0 a0 k r
 | [], _, _ => trivial
 | o :: r, k, h => ⟨fun ys done w hE hn hF hD hZ => h.1 ys done w _ hE hn hF hD hZ (fun j d hj hs => by
  cases ho : (l.take n)[j]? with
  | none => rw [ho] at hj; cases hj
  | some o' => rw [ho] at hj; rw [fill_get hA ho hj hs, Nat.zero_add]) (fun d hd => fill_else hd), h.2.steps hA⟩
end Go.Proofs.Ytpefdmkfmcjfnaa.Sched

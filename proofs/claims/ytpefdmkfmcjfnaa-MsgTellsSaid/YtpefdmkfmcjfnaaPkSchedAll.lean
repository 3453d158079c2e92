import Derived.Test.YtpefdmkfmcjfnaaPkSched

namespace Go.Proofs.Ytpefdmkfmcjfnaa.Sched
open Go.Proofs.Ytpefdmkfmcjfnaa.Tail (Fit least)
def okA (l : List Oper) : Bool := (List.range l.length).all fun j => ((l[j]?).map fun o => o.after.toList.all fun e => !Region.binds .any e || decide (e.on < j)).getD false
def OkA (l : List Oper) : Prop := ∀ j o, l[j]? = some o → ∀ e ∈ o.after, Region.binds .any e = true → e.on < j
theorem okA_of {l : List Oper} (h : okA l = true) : OkA l := by
 intro j o ho e he hb
 unfold okA at h
 rw [List.all_eq_true] at h
 have h2 := h j (List.mem_range.2 (List.getElem?_eq_some_iff.1 ho).1)
 rw [ho] at h2
 simp only [Option.map_some, Option.getD_some, List.all_eq_true, Bool.or_eq_true, Bool.not_eq_true', decide_eq_true_eq] at h2
 rcases h2 e (by simpa using he) with h6 | h6
 · rw [hb] at h6; cases h6
 · exact h6
variable {P : Program} {l : List Oper} {n : Nat} {Q : Exit → Act → World → Prop}
variable {Ext : World → World → Prop} {V : Nat → Value → World → Prop} {Z : (Nat → Bool) → (Nat → Value) → World → Prop} {w0 : World} {a0 : Act}
theorem schedA_any (hn : n = l.length) (hk : OkA l) (hseq : Region.seqB .any l.toArray (l.length - n) n (Array.replicate n true ++ Array.replicate (l.length - n) false) = true) (hA : apartB (l.take n) = true) (htr : ∀ {a b c}, Ext a b → Ext b c → Ext a c) (hV : ∀ {k v w w'}, V k v w → Ext w w' → V k v w') (hS : Steps P l n Q Ext V Z w0 a0 0 (l.take n))
 (hQ : ∀ ys w, Ext w0 w → (∀ i, i < n → V i (ys i) w) → (∃ done : Nat → Bool, (∀ i, i < n → done i = true) ∧ Z done ys w) → wpList P l.toArray Q (l.drop n) (fill 0 (l.take n) ys a0) w) :
 ∀ (fuel : Nat) (lh la : Array Bool) (ys : Nat → Value) (w : World), Ext w0 w → (∀ i, i < n → lh.getD i false = true → V i (ys i) w) → Z (fun i => lh.getD i false) ys w → Fit l n lh la → lh.toList.count false = fuel →
  wpAny P .any l.toArray Q (fuel + (l.length - n)) la (fill 0 (l.take n) ys a0) w
 | 0, lh, la, ys, w, hE, hF, hZ, hf, hc => by
  have hall' : ∀ j, j < n → lh[j]? = some true := by
   intro j hj
   have hlt : j < lh.size := by rw [hf.size]; exact hj
   rw [Array.getElem?_eq_getElem hlt]
   cases hb : lh[j]
   · exfalso
     have : false ∈ lh.toList := by rw [← hb]; simp
     have := List.count_pos_iff.2 this
     omega
   · rfl
  have hall : ∀ j, j < n → la[j]? = some true := fun j hj => by rw [hf.same j hj]; exact hall' j hj
  have hla : la = Array.replicate n true ++ Array.replicate (l.length - n) false := by
   apply Array.ext_getElem?
   intro j
   by_cases h1 : j < n
   · rw [hall j h1, Array.getElem?_append_left (by simpa using h1)]
     simp [h1]
   · rw [Array.getElem?_append_right (by simpa using (by omega : n ≤ j))]
     by_cases h2 : j < l.length
     · rw [hf.rest j (by omega) h2, Array.getElem?_replicate]
       simp
       omega
     · rw [Array.getElem?_eq_none (by rw [hf.sizeAll]; omega), Array.getElem?_eq_none (by simp; omega)]
  subst hla
  have hd : ∀ i, i < n → lh.getD i false = true := fun i hi => by rw [Array.getD_eq_getD_getElem?, hall' i hi]; rfl
  have := wpAny_of_seq (P := P) (md := .any) (ops := l.toArray) (Q' := Q) (l.drop n) n (Array.replicate n true ++ Array.replicate (l.length - n) false) (fill 0 (l.take n) ys a0) w (fun j => by simp [List.getElem?_drop]) (by simpa using hseq)
   (hQ ys w hE (fun i hi => hF i hi (hd i hi)) ⟨_, hd, hZ⟩)
  simpa using this
 | fuel + 1, lh, la, ys, w, hE, hF, hZ, hf, hc => by
  have hsome : ∃ j, j < n ∧ lh.getD j true = false := by
   have : false ∈ lh.toList := List.count_pos_iff.1 (by omega)
   obtain ⟨j, hj, hb⟩ := List.getElem_of_mem this
   have hj' : j < lh.size := by simpa using hj
   refine ⟨j, by rw [← hf.size]; exact hj', ?_⟩
   simp only [Array.getElem_toList] at hb
   simp [hj', hb]
  have hgd : ∀ j, j < n → la.getD j true = lh.getD j true := fun j hj => by
   have := hf.same j hj
   rw [Array.getD_eq_getD_getElem?, Array.getD_eq_getD_getElem?, this]
  have hgd' : ∀ j, j < n → la.getD j false = lh.getD j false := fun j hj => by
   have := hf.same j hj
   rw [Array.getD_eq_getD_getElem?, Array.getD_eq_getD_getElem?, this]
  have hboth : ∀ j, j < n → lh.getD j false = lh.getD j true := fun j hj => by
   have hlt : j < lh.size := by rw [hf.size]; exact hj
   simp [hlt]
  obtain ⟨j, hj, hpj, hmin⟩ := least (p := fun j => lh.getD j true) n hsome
  have hready : j ∈ Region.ready .any l.toArray la := by
   rw [mem_ready]
   obtain ⟨o, ho⟩ : ∃ o, l[j]? = some o := ⟨l[j]'(by omega), List.getElem?_eq_getElem (by omega)⟩
   refine ⟨by rw [hgd j hj]; exact hpj, o, by simpa using ho, fun e he hbb => ?_⟩
   have h1 := hk j o ho e he hbb
   rw [hgd' _ (by omega), hboth _ (by omega)]
   exact hmin _ h1
  have key : (Region.ready .any l.toArray la = [] → Q .normal (fill 0 (l.take n) ys a0) w) ∧ ∀ i ∈ Region.ready .any l.toArray la, wpOp P l.toArray Q i (wpAny P .any l.toArray Q (fuel + (l.length - n)) (la.setIfInBounds i true)) (fill 0 (l.take n) ys a0) w := by
   refine ⟨fun h0 => (by rw [h0] at hready; cases hready), fun i hi => ?_⟩
   rw [mem_ready] at hi
   obtain ⟨hi0, o, ho, hall⟩ := hi
   have ho' : l[i]? = some o := by simpa using ho
   have hin : i < n := by
    have := (List.getElem?_eq_some_iff.1 ho').1
    omega
   have hlti : i < lh.size := by rw [hf.size]; exact hin
   have hfi : lh.getD i false = false := by rw [hboth i hin, ← hgd i hin]; exact hi0
   have ho1 : (l.take n)[i]? = some o := by simp [hin, ho']
   have hst := hS.at ho1 ys (fun i => lh.getD i false) w hE (by simpa using hfi) hF (fun m hm => by
    rw [List.any_eq_true] at hm
    obtain ⟨e, he, hb⟩ := hm
    simp only [Bool.and_eq_true, beq_iff_eq] at hb
    have he' : e ∈ o.after := by simpa using he
    have h1 := hk i o ho' e he' hb.1
    have h2 := hall e he' hb.1
    rw [hgd' _ (by omega)] at h2
    show lh.getD m false = true
    rw [← hb.2]; exact h2) hZ
   simp only [Nat.zero_add] at hst
   refine wpOp_mono (fun a' w' hK => ?_) (wpOp_of_list ho hst)
   obtain ⟨v, rfl, hE', hv, hZ'⟩ := hK
   rw [fill_upd hA ho1, Nat.zero_add]
   have hset : ∀ m, (lh.setIfInBounds i true).getD m false = if m = i then true else lh.getD m false := by
    intro m
    rw [Array.getD_eq_getD_getElem?, Array.getElem?_setIfInBounds]
    by_cases hm : i = m
    · subst hm; simp [hlti]
    · rw [if_neg hm, if_neg (fun e => hm e.symm), Array.getD_eq_getD_getElem?]
   refine schedA_any hn hk hseq hA htr hV hS hQ fuel _ _ (upd ys i v) w' (htr hE hE') (fun m hm ht => ?_) ?_ (hf.set hin (fun o1 ho1 e he hb => by rw [ho'] at ho1; cases ho1; exact hall e he hb)) ?_
   · rw [hset] at ht
     by_cases hmi : m = i
     · subst hmi; simpa [upd] using hv
     · rw [if_neg hmi] at ht
       simp only [upd, if_neg hmi]
       exact hV (hF m hm ht) hE'
   · have : (fun m => (lh.setIfInBounds i true).getD m false) = mark (fun m => lh.getD m false) i := funext hset
     rw [this]; exact hZ'
   · have hlt : i < lh.toList.length := by simpa using hlti
     have hfalse : lh.toList[i] = false := by
      have h2 : lh.getD i true = false := by rw [← hgd i hin]; exact hi0
      simpa [hlti] using h2
     rw [Array.toList_setIfInBounds, List.count_set hlt, hfalse, hc]
     simp
  rw [show fuel + 1 + (l.length - n) = (fuel + (l.length - n)) + 1 by omega]
  exact key
theorem wp_region_schedA {id : Nat} {a : Act} {w : World} (n : Nat) (Ext : World → World → Prop) (V : Nat → Value → World → Prop) (Z : (Nat → Bool) → (Nat → Value) → World → Prop)
 (hn : n = l.length) (hm : P.follows .mixedOrders = true) (hT : okA l = true) (hseq : Region.seqB .any l.toArray (l.length - n) n (Array.replicate n true ++ Array.replicate (l.length - n) false) = true) (hA : apartB (l.take n) = true)
 (htr : ∀ {a b c}, Ext a b → Ext b c → Ext a c) (hV : ∀ {k v w w'}, V k v w → Ext w w' → V k v w') (h0 : Ext w { w with drawn := w.drawn + 1 }) (hZ : ∀ ys, Z (fun _ => false) ys { w with drawn := w.drawn + 1 })
 (hS : Steps P l n Q Ext V Z w a 0 (l.take n))
 (hQ : ∀ ys w', Ext w w' → (∀ i, i < n → V i (ys i) w') → (∃ done : Nat → Bool, (∀ i, i < n → done i = true) ∧ Z done ys w') → wpList P l.toArray Q (l.drop n) (fill 0 (l.take n) ys a) w') : (Code.region id l.toArray true).wp P Q a w := by
 have hk := okA_of hT
 refine wp_region_any hm ?_
 obtain ⟨ys, hy⟩ := fill_self (l.take n) 0 a
 have hd : ∀ i, (Array.replicate n false).getD i false = false := fun i => by rw [Array.getD_eq_getD_getElem?, Array.getElem?_replicate]; split <;> rfl
 have h2 := schedA_any (P := P) (Q := Q) (w0 := w) (Ext := Ext) (V := V) (Z := Z) (a0 := a) hn hk hseq hA htr hV hS hQ n (Array.replicate n false) (Array.replicate l.length false) ys { w with drawn := w.drawn + 1 } h0
  (fun i _ h => by rw [hd] at h; cases h) (by rw [show (fun i => (Array.replicate n false).getD i false) = fun _ => false from funext hd]; exact hZ ys)
  ⟨by simp, by simp, fun j hj => by rw [Array.getElem?_replicate, Array.getElem?_replicate, if_pos hj, if_pos (by omega)], fun j h1 h2 => by simp [h2], fun j o hj ht => by rw [Array.getElem?_replicate] at ht; split at ht <;> cases ht⟩ (by simp)
 rw [hy, show n + (l.length - n) = l.length by omega] at h2
 simpa using h2
end Go.Proofs.Ytpefdmkfmcjfnaa.Sched
namespace Go.Proofs.Ytpefdmkfmcjfnaa.Feas
open Go.RowKit Go.Proofs.Ytpefdmkfmcjfnaa.Mem
set_option linter.unusedVariables false
inductive Kn where
 | val (u : Value)
 | of (p : Value → World → Prop) (hp : ∀ {v w w'}, p v w → Below w.heap.size w w' → p v w')
 | any
def Kn.holds : Kn → Value → World → Prop
 | .val u, v, _ => v = u
 | .of p _, v, w => p v w
 | .any, _, _ => True
def VK (ks : List Kn) (i : Nat) (v : Value) (w : World) : Prop := ∀ k, ks[i]? = some k → k.holds v w
theorem VK.keep {ks : List Kn} {i : Nat} {v : Value} {w w' : World} (h : VK ks i v w) (hb : Below w.heap.size w w') : VK ks i v w' := fun k hk => by
 have h1 := h k hk
 cases k with
 | val u => exact h1
 | of p hp => exact hp h1 hb
 | any => trivial
theorem VK.val {ks : List Kn} {i : Nat} {u v : Value} {w : World} (h : ks[i]? = some (.val u)) (e : v = u) : VK ks i v w := fun k hk => by rw [h] at hk; cases hk; exact e
theorem VK.of {ks : List Kn} {i : Nat} {v : Value} {w : World} {p : Value → World → Prop} {hp : ∀ {v w w'}, p v w → Below w.heap.size w w' → p v w'} (h : ks[i]? = some (.of p hp)) (e : p v w) : VK ks i v w := fun k hk => by rw [h] at hk; cases hk; exact e
theorem VK.any {ks : List Kn} {i : Nat} {v : Value} {w : World} (h : ks[i]? = some .any) : VK ks i v w := fun k hk => by rw [h] at hk; cases hk; trivial
theorem VK.eq {ks : List Kn} {i : Nat} {u v : Value} {w : World} (hV : VK ks i v w) (h : ks[i]? = some (.val u)) : v = u := hV _ h
theorem VK.get {ks : List Kn} {i : Nat} {v : Value} {w : World} {p : Value → World → Prop} {hp : ∀ {v w w'}, p v w → Below w.heap.size w w' → p v w'} (hV : VK ks i v w) (h : ks[i]? = some (.of p hp)) : p v w := hV _ h
theorem belowTr {a b c : World} (h : Below a.heap.size a b) (k : Below b.heap.size b c) : Below a.heap.size a c := h.trans (k.mono h.size)
end Go.Proofs.Ytpefdmkfmcjfnaa.Feas

import Derived.Test.YteclpblfleakhaaDoorPkWhenMath
import Derived.Test.YteclpblfleakhaaDoorPkPlaceMay
import Derived.Test.YteclpblfleakhaaDoorPkWindowCalls

namespace Go.Proofs.YteclpblfleakhaaDoor.Window
open Go.RowKit Go.Sort Go.Proofs.YteclpblfleakhaaDoor.Mem
set_option linter.unusedVariables false
theorem inB_any (e l t : Int) (w : World) :
 Calls Tryd.prog 72 #[.agg #[.int .i64 e, .int .i64 l], .int .i64 t] w fun r w' => r = .returned (.bool (decide (e ≤ t) && decide (t ≤ l))) ∧ Below w.heap.size w w' :=
 (has_any e l t w).mono fun r w' ⟨h1, h2⟩ => ⟨h1, by subst h2; exact (Below.refl _ _).alloc (Nat.le_refl _) _⟩
theorem in_Wait1 : ∀ args w, (callFunc 71 args).run Tryd.prog w = .ok (.enter 71 args) w := fun args w => enters Tryd.func71 (by kernel_rfl) rfl args w
theorem Wait1_any (e l x y t : Int) (b : Nat) (w : World) (hb : b < w.heap.size) (ht : w.cell? ⟨b, 0, none⟩ = some (.int .i64 t)) :
 Calls Tryd.prog 71 #[.agg #[.int .i64 e, .int .i64 l, .int .i64 x, .int .i64 y], .pointer (some ⟨b, 0, none⟩)] w fun r w' => r = .returned (.tuple #[.int .i64 (max t e), .bool (decide (e ≤ max t e) && decide (max t e ≤ l))]) ∧ Below w.heap.size w w' := by
 have hb0 : Below w.heap.size w (w.alloc (.cells #[.int .i64 e, .int .i64 l, .int .i64 x, .int .i64 y] 169)) := (Below.refl _ _).alloc (Nat.le_refl _) _
 go_enter Tryd.func71, Tryd.ntmps71
 go_wp2_with fail
 refine (inB_any _ _ _ _).mono ?_
 rintro r w1 ⟨rfl, hb1⟩
 have hE := hb0.trans (hb1.mono hb0.size)
 clear hb1 hb0
 go_wp2
 refine bodyPost_ret (v := .tuple #[.int .i64 _, .bool _]) (by simp [results, Tryd.results71, go_sem]; exact ⟨rfl, rfl⟩) rfl ?_
 exact ⟨rfl, hE⟩
theorem Wait_any (e l t : Int) (w : World) :
 Calls Tryd.prog 49 #[.agg #[.int .i64 e, .int .i64 l], .int .i64 t] w fun r w' => r = .returned (.tuple #[.int .i64 (waitV e l t), .bool (waitB e l t)]) ∧ Below w.heap.size w w' := by
 have hT0 : At ((w.alloc (.cells #[.int .i64 e, .int .i64 l] 66)).alloc (.cells #[.int .i64 t] 3)) (w.heap.size + 1) 3 #[.int .i64 t] := At.new_ _ _ _ (by simp)
 have hb0 : Below w.heap.size w ((w.alloc (.cells #[.int .i64 e, .int .i64 l] 66)).alloc (.cells #[.int .i64 t] 3)) := ((Below.refl _ _).alloc (Nat.le_refl _) _).alloc (by simp) _
 go_enter Tryd.func49, Tryd.ntmps49
 go_wp2_with fail
 generalize ((w.alloc (.cells #[.int .i64 e, .int .i64 l] 66)).alloc (.cells #[.int .i64 t] 3)) = w0 at *
 refine (ifMayInt _ _ _ _ (max t e) (decide (e ≤ max t e) && decide (max t e ≤ l)) _ in_Wait1 (fun _ w1 hb1 => Wait1_any _ _ _ _ t _ w1 (hT0.keep hb1 hT0.inside).inside (by simpa using (hT0.keep hb1 hT0.inside).cell 0))).mono ?_
 rintro r w1 ⟨rfl, hb1⟩
 have hE := hb0.trans (hb1.mono hb0.size)
 clear hb1 hb0 hT0
 go_wp2
 refine bodyPost_ret (v := .tuple #[.int .i64 _, .bool _]) (by simp [results, Tryd.results49, go_sem]; exact ⟨rfl, rfl⟩) rfl ?_
 exact ⟨rfl, hE⟩
end Go.Proofs.YteclpblfleakhaaDoor.Window
namespace Go.Proofs.YteclpblfleakhaaDoor.Tail
def okB (l : List Oper) (n : Nat) : Bool :=
 decide (n < l.length) &&
 ((List.range n).all fun j => ((l[j]?).map fun o => ((o.guard.map fun g => decide (g.1 < j)).getD true) && o.after.toList.all fun e => decide (e.on < j)).getD false) &&
 ((List.range n).all fun h => (List.range (n + 1)).any fun k => decide (h < k) && ((l[k]?).map fun o => o.after.toList.any fun e => Region.binds .any e && decide (e.on = h)).getD false) &&
 ((List.range (l.length - n)).all fun t => t == 0 || ((l[n + t]?).map fun o => o.after.toList.any fun e => Region.binds .any e && decide (e.on + 1 = n + t)).getD false) &&
 Region.seqB .any l.toArray (l.length - n) n (Array.replicate n true ++ Array.replicate (l.length - n) false)
structure Ok (l : List Oper) (n : Nat) : Prop where
 lt : n < l.length
 head : ∀ j o, j < n → l[j]? = some o → (∀ g, o.guard = some g → g.1 < j) ∧ ∀ e ∈ o.after, e.on < j
 needed : ∀ h, h < n → ∃ k o, h < k ∧ k ≤ n ∧ l[k]? = some o ∧ ∃ e ∈ o.after, Region.binds .any e = true ∧ e.on = h
 tail : ∀ t o, n < t → l[t]? = some o → ∃ e ∈ o.after, Region.binds .any e = true ∧ e.on + 1 = t
 seq : Region.seqB .any l.toArray (l.length - n) n (Array.replicate n true ++ Array.replicate (l.length - n) false) = true
theorem ok_of {l : List Oper} {n : Nat} (h : okB l n = true) : Ok l n := by
 simp only [okB, Bool.and_eq_true, decide_eq_true_eq, List.all_eq_true, List.mem_range] at h
 obtain ⟨⟨⟨⟨h1, h2⟩, h3⟩, h4⟩, h5⟩ := h
 refine ⟨h1, fun j o hj ho => ?_, fun k hk => ?_, fun t o ht ho => ?_, h5⟩
 · have := h2 j hj
   rw [ho] at this
   simp only [Option.map_some, Option.getD_some, Bool.and_eq_true, List.all_eq_true, decide_eq_true_eq] at this
   exact ⟨fun g hg => by have h1 := this.1; rw [hg] at h1; simpa using h1, fun e he => this.2 e (by simpa using he)⟩
 · have h6 := h3 k hk
   rw [List.any_eq_true] at h6
   obtain ⟨i, hi, h7⟩ := h6
   rw [List.mem_range] at hi
   simp only [Bool.and_eq_true, decide_eq_true_eq] at h7
   obtain ⟨h8, h9⟩ := h7
   cases ho : l[i]? with
   | none => rw [ho] at h9; simp at h9
   | some o =>
    rw [ho] at h9
    simp only [Option.map_some, Option.getD_some, List.any_eq_true, Bool.and_eq_true, decide_eq_true_eq] at h9
    obtain ⟨e, he, hb, hon⟩ := h9
    exact ⟨i, o, h8, by omega, ho, e, by simpa using he, hb, hon⟩
 · have hlt : t < l.length := (List.getElem?_eq_some_iff.1 ho).1
   have h6 := h4 (t - n) (by omega)
   rw [show n + (t - n) = t by omega, ho] at h6
   simp only [Option.map_some, Option.getD_some, Bool.or_eq_true, beq_iff_eq, List.any_eq_true, Bool.and_eq_true, decide_eq_true_eq] at h6
   rcases h6 with h6 | ⟨e, he, hb, hon⟩
   · omega
   · exact ⟨e, by simpa using he, hb, hon⟩
variable {P : Program} {l : List Oper} {n : Nat} {C : World → Prop}
structure Fit (l : List Oper) (n : Nat) (lh la : Array Bool) : Prop where
 size : lh.size = n
 sizeAll : la.size = l.length
 same : ∀ j, j < n → la[j]? = lh[j]?
 rest : ∀ j, n ≤ j → j < l.length → la[j]? = some false
 closed : ∀ j o, j < n → la[j]? = some true → l[j]? = some o → ∀ e ∈ o.after, Region.binds .any e = true → la.getD e.on false = true
theorem getD_set {la : Array Bool} {i k : Nat} (h : la.getD k false = true) : (la.setIfInBounds i true).getD k false = true := by
 rw [Array.getD_eq_getD_getElem?] at h ⊢
 rw [Array.getElem?_setIfInBounds]
 by_cases hik : i = k
 · subst hik
   cases hl : la[i]? with
   | none => rw [hl] at h; simp at h
   | some b =>
    have := (Array.getElem?_eq_some_iff.1 hl).1
    simp [this]
 · rw [if_neg hik]
   exact h
theorem Fit.set {lh la : Array Bool} (h : Fit l n lh la) {i : Nat} (hi : i < n) (hr : ∀ o, l[i]? = some o → ∀ e ∈ o.after, Region.binds .any e = true → la.getD e.on false = true) : Fit l n (lh.setIfInBounds i true) (la.setIfInBounds i true) := by
 refine ⟨by simpa using h.size, by simpa using h.sizeAll, fun j hj => ?_, fun j h1 h2 => ?_, fun j o hj ht ho e he hb => ?_⟩
 · have := h.same j hj
   have hs := h.size
   simp only [Array.getElem?_setIfInBounds]
   by_cases hij : i = j
   · subst hij
     have h3 : i < la.size := by
      have e : lh[i]? = some (lh[i]'(by omega)) := Array.getElem?_eq_getElem (by omega)
      rw [e] at this
      exact (Array.getElem?_eq_some_iff.1 this).1
     simp [h3, hs, hi]
   · simp [hij, this]
 · have := h.rest j h1 h2
   rw [Array.getElem?_setIfInBounds, if_neg (by omega)]
   exact this
 · apply getD_set
   by_cases hij : i = j
   · subst hij
     exact hr o ho e he hb
   · rw [Array.getElem?_setIfInBounds, if_neg hij] at ht
     exact h.closed j o hj ht ho e he hb
theorem stuck (hk : Ok l n) {lh la : Array Bool} (hf : Fit l n lh la) : ∀ (m h : Nat), h < n → n - h ≤ m → la.getD h true = false → n ∉ Region.ready .any l.toArray la
 | 0, h, hh, hm, _ => by omega
 | m + 1, h, hh, hm, hu => by
  obtain ⟨k, o, h1, h2, ho, e, he, hb, hon⟩ := hk.needed h hh
  have hu' : la.getD h false = false := by
   rw [Array.getD_eq_getD_getElem?] at hu ⊢
   cases hl : la[h]? with
   | none => rfl
   | some b => rw [hl] at hu; simpa using hu
  by_cases hkn : k = n
  · subst hkn
    intro hr
    rw [mem_ready] at hr
    obtain ⟨_, o', ho', hall⟩ := hr
    have e1 : o' = o := by
     rw [show l.toArray[k]? = l[k]? by simp] at ho'
     rw [ho] at ho'
     exact (Option.some.inj ho').symm
    subst e1
    have := hall e he hb
    rw [hon, hu'] at this
    cases this
  · have hkl : k < n := by omega
    refine stuck hk hf m k hkl (by omega) ?_
    cases hv : la[k]? with
    | none =>
     have := hk.lt
     rw [Array.getElem?_eq_none_iff, hf.sizeAll] at hv
     omega
    | some b =>
     rw [Array.getD_eq_getD_getElem?, hv]
     cases b
     · rfl
     · have := hf.closed k o hkl hv ho e he hb
       rw [hon, hu'] at this
       cases this
theorem qOp_all (hk : Ok l n) {i : Nat} (hi : i < n) {K : Act → Prop} {a : Act} (h : qOp P (l.take n).toArray C i K a) : qOp P l.toArray C i K a := by
 have e : (l.take n).toArray[i]? = l.toArray[i]? := by simp [hi]
 unfold qOp at h ⊢
 rw [e] at h
 cases ho : l.toArray[i]? with
 | none => rw [ho] at h; exact h
 | some o =>
  rw [ho] at h
  have hg := (hk.head i o hi (by simpa using ho)).1
  have hw : Region.wanted o (yielded (l.take n).toArray a.tmps) = Region.wanted o (yielded l.toArray a.tmps) := by
   unfold Region.wanted
   cases hgo : o.guard with
   | none => rfl
   | some g =>
    have hlt := hg g hgo
    have e2 : (l.take n).toArray[g.1]? = l.toArray[g.1]? := by simp [show g.1 < n by omega]
    have e3 : yielded (l.take n).toArray a.tmps g.1 = yielded l.toArray a.tmps g.1 := by unfold yielded; rw [e2]
    simp only [e3]
  dsimp only at h ⊢
  rw [hw] at h
  exact h
theorem least {p : Nat → Bool} : ∀ (n : Nat), (∃ j, j < n ∧ p j = false) → ∃ j, j < n ∧ p j = false ∧ ∀ k, k < j → p k = true
 | 0, ⟨j, hj, _⟩ => absurd hj (by omega)
 | n + 1, ⟨j, hj, hp⟩ => by
  by_cases h : ∃ k, k < n ∧ p k = false
  · obtain ⟨k, h1, h2, h3⟩ := least n h
    exact ⟨k, by omega, h2, h3⟩
  · have hjn : j = n := by
     apply Classical.byContradiction
     intro hne
     exact h ⟨j, by omega, hp⟩
    subst hjn
    refine ⟨j, hj, hp, fun k hk => ?_⟩
    cases hpk : p k
    · exact absurd ⟨k, hk, hpk⟩ h
    · rfl
theorem tail_any (hk : Ok l n) {Qa : Act → Prop} {Q : Exit → Act → World → Prop} (hQ : ∀ a w, C w → Qa a → wpList P l.toArray Q (l.drop n) a w) :
 ∀ (fuel : Nat) (lh la : Array Bool) (a : Act) (w : World), C w → Fit l n lh la → lh.toList.count false = fuel → wpAnyQ P .any (l.take n).toArray C Qa fuel lh a → wpAny P .any l.toArray Q (fuel + (l.length - n)) la a w
 | 0, lh, la, a, w, hw, hf, hc, h => by
  have hall : ∀ j, j < n → la[j]? = some true := by
   intro j hj
   rw [hf.same j hj]
   have hlt : j < lh.size := by rw [hf.size]; exact hj
   rw [Array.getElem?_eq_getElem hlt]
   cases hb : lh[j]
   · exfalso
     have : false ∈ lh.toList := by rw [← hb]; simp
     have := List.count_pos_iff.2 this
     omega
   · rfl
  have hla : la = Array.replicate n true ++ Array.replicate (l.length - n) false := by
   apply Array.ext_getElem?
   intro j
   by_cases h1 : j < n
   · rw [hall j h1, Array.getElem?_append_left (by simpa using h1)]
     simp [h1]
   · rw [Array.getElem?_append_right (by simpa using (by omega : n ≤ j))]
     by_cases h2 : j < l.length
     · rw [hf.rest j (by omega) h2, Array.getElem?_replicate]
       simp
       omega
     · rw [Array.getElem?_eq_none (by rw [hf.sizeAll]; omega), Array.getElem?_eq_none (by simp; omega)]
  subst hla
  have := wpAny_of_seq (P := P) (md := .any) (ops := l.toArray) (Q' := Q) (l.drop n) n (Array.replicate n true ++ Array.replicate (l.length - n) false) a w (fun j => by simp [List.getElem?_drop]) (by simpa using hk.seq) (hQ a w hw h.2)
  simpa using this
 | fuel + 1, lh, la, a, w, hw, hf, hc, h => by
  have hsome : ∃ j, j < n ∧ lh.getD j true = false := by
   have : false ∈ lh.toList := List.count_pos_iff.1 (by omega)
   obtain ⟨j, hj, hb⟩ := List.getElem_of_mem this
   have hj' : j < lh.size := by simpa using hj
   refine ⟨j, by rw [← hf.size]; exact hj', ?_⟩
   simp only [Array.getElem_toList] at hb
   simp [hj', hb]
  have hgd : ∀ j, j < n → la.getD j true = lh.getD j true := fun j hj => by
   have := hf.same j hj
   rw [Array.getD_eq_getD_getElem?, Array.getD_eq_getD_getElem?, this]
  have hgd' : ∀ j, j < n → la.getD j false = lh.getD j false := fun j hj => by
   have := hf.same j hj
   rw [Array.getD_eq_getD_getElem?, Array.getD_eq_getD_getElem?, this]
  have hboth : ∀ j, j < n → lh.getD j false = lh.getD j true := fun j hj => by
   have hlt : j < lh.size := by rw [hf.size]; exact hj
   simp [hlt]
  obtain ⟨j, hj, hpj, hmin⟩ := least (p := fun j => lh.getD j true) n hsome
  have hready : j ∈ Region.ready .any l.toArray la := by
   rw [mem_ready]
   obtain ⟨o, ho⟩ : ∃ o, l[j]? = some o := ⟨l[j]'(by have := hk.lt; omega), List.getElem?_eq_getElem (by have := hk.lt; omega)⟩
   refine ⟨by rw [hgd j hj]; exact hpj, o, by simpa using ho, fun e he _ => ?_⟩
   have h1 := (hk.head j o hj ho).2 e he
   rw [hgd' _ (by omega), hboth _ (by omega)]
   exact hmin _ h1
  have key : (Region.ready .any l.toArray la = [] → Q .normal a w) ∧ ∀ i ∈ Region.ready .any l.toArray la, wpOp P l.toArray Q i (wpAny P .any l.toArray Q (fuel + (l.length - n)) (la.setIfInBounds i true)) a w := by
   refine ⟨fun h0 => (by rw [h0] at hready; cases hready), fun i hi => ?_⟩
   rw [mem_ready] at hi
   obtain ⟨hi0, o, ho, hall⟩ := hi
   have ho' : l[i]? = some o := by simpa using ho
   have hin : i < n := by
    apply Classical.byContradiction
    intro hni
    by_cases hin0 : i = n
    · subst hin0
      exact stuck hk hf i j hj (by omega) (by rw [hgd j hj]; exact hpj) (mem_ready.2 ⟨hi0, o, ho, hall⟩)
    · obtain ⟨e, he, hb, hon⟩ := hk.tail i o (by omega) ho'
      have h1 := hall e he hb
      have hlt : i < l.length := (List.getElem?_eq_some_iff.1 ho').1
      have h2 := hf.rest e.on (by omega) (by omega)
      rw [Array.getD_eq_getD_getElem?, h2] at h1
      cases h1
   have hih : i ∈ Region.ready .any (l.take n).toArray lh := by
    rw [mem_ready]
    refine ⟨by rw [← hgd i hin]; exact hi0, o, by simp [hin, ho'], fun e he hb => ?_⟩
    have h1 := (hk.head i o hin ho').2 e he
    rw [← hgd' _ (by omega)]
    exact hall e he hb
   refine wpOp_of_qOp hw (fun a' w' hw' hK => ?_) (qOp_all hk hin (h.2 i hih))
   refine tail_any hk hQ fuel _ _ a' w' hw' (hf.set hin (fun o1 ho1 e he hb => by rw [ho'] at ho1; cases ho1; exact hall e he hb)) ?_ hK
   have hlt : i < lh.toList.length := by simpa [hf.size] using hin
   have hfalse : lh.toList[i] = false := by
    have h2 : lh.getD i true = false := by rw [← hgd i hin]; exact hi0
    have hlt' : i < lh.size := by simpa using hlt
    simpa [hlt'] using h2
   rw [Array.toList_setIfInBounds, List.count_set hlt, hfalse, hc]
   simp
  rw [show fuel + 1 + (l.length - n) = (fuel + (l.length - n)) + 1 by omega]
  exact key
theorem wp_region_quiet_tail {id : Nat} {Q : Exit → Act → World → Prop} {a : Act} {w : World} (n : Nat) (hm : P.follows .mixedOrders = true) (hB : Region.lexB .any (l.take n).toArray = true) (hT : okB l n = true) (hC : C { w with drawn := w.drawn + 1 })
 (h : wpQuiet P (l.take n).toArray C (fun a' => ∀ w', C w' → wpList P l.toArray Q (l.drop n) a' w') (l.take n) a) : (Code.region id l.toArray true).wp P Q a w := by
 have hk := ok_of hT
 simp only [Region.lexB, Bool.and_eq_true] at hB
 have hlen : (l.take n).length = n := by simp; have := hk.lt; omega
 have h1 := wpAnyQ_lex (P := P) (C := C) (md := .any) (ops := (l.take n).toArray) hB.1 (l.take n) 0 (Array.replicate n false) a (by simp) (by simpa [hlen] using hB.2) h
 refine wp_region_any hm ?_
 have h2 := tail_any (P := P) (Q := Q) hk (Qa := fun a' => ∀ w', C w' → wpList P l.toArray Q (l.drop n) a' w') (fun a w hw h => h w hw) (l.take n).length (Array.replicate n false) (Array.replicate l.length false) a { w with drawn := w.drawn + 1 } hC
  ⟨by simp, by simp, fun j hj => by have := hk.lt; rw [Array.getElem?_replicate, Array.getElem?_replicate, if_pos hj, if_pos (by omega)], fun j h1 h2 => by simp [h2], fun j o hj ht => by rw [Array.getElem?_replicate] at ht; split at ht <;> cases ht⟩ (by simp [hlen]) h1
 rw [hlen, show n + (l.length - n) = l.length by have := hk.lt; omega] at h2
 simpa using h2
open Go.Sort Go.RowKit in
theorem wp_region_below_tail {id : Nat} {Q : Exit → Act → World → Prop} {a : Act} {w : World} (n : Nat) (hm : P.follows .mixedOrders = true) (hB : Region.lexB .any (l.take n).toArray = true) (hT : okB l n = true)
 (h : wpQuiet P (l.take n).toArray (fun w' => ∃ p : Regrown, w' = grow (redrawn w p.d) p.os) (fun a' => ∀ w', (∃ p : Regrown, w' = grow (redrawn w p.d) p.os) → wpList P l.toArray Q (l.drop n) a' w') (l.take n) a) : (Code.region id l.toArray true).wp P Q a w :=
 wp_region_quiet_tail (C := fun w' => ∃ p : Regrown, w' = grow (redrawn w p.d) p.os) n hm hB hT ⟨⟨w.drawn + 1, #[]⟩, by rw [grow_empty]; rfl⟩ h
end Go.Proofs.YteclpblfleakhaaDoor.Tail
namespace Go.Proofs.YteclpblfleakhaaDoor.Order
open Go.RowKit Go.Sort Go.Proofs.YteclpblfleakhaaDoor.Mem Go.Proofs.YteclpblfleakhaaDoor.Place Go.Proofs.YteclpblfleakhaaDoor.Window Go.Proofs.YteclpblfleakhaaDoor.Tail
set_option linter.unusedVariables false
theorem ret_int {k : IntKind} {a b : Int} (h : a = b) : Ending.returned (.int k a) = .returned (.int k b) := by rw [h]
theorem ret_bool {a b : Bool} (h : a = b) : Ending.returned (.bool a) = .returned (.bool b) := by rw [h]
theorem btw_no1 {n a b : Int} (h : ¬ n ≥ a) : false = btwB n a b := by simp [btwB]; omega
theorem btw_yes1 {n a b : Int} (h : n ≥ a) : decide (n ≤ b) = btwB n a b := by simp [btwB]; omega
theorem between_any (n a b : Int) (w : World) :
 Calls Tryd.prog 62 #[.int .i64 n, .int .i64 a, .int .i64 b] w fun r w' => r = .returned (.bool (btwB n a b)) ∧ w = w' := by
 by_cases h1 : n ≥ a
 · have hm := Lib.hid (btw_yes1 (b := b) h1)
   go_enter Tryd.func62, Tryd.ntmps62
   go_wp2
   go_ret
   exact ⟨ret_bool hm.out, rfl⟩
 · have hm := Lib.hid (btw_no1 (b := b) h1)
   go_enter Tryd.func62, Tryd.ntmps62
   go_wp2
   go_ret
   exact ⟨ret_bool hm.out, rfl⟩
theorem firstFault_any (b0 b1 b2 : Bool) (e0 e1 e2 : Int) (g : Nat) (w : World) (h : At w g 155 #[.bool b0, .int .i64 e0, .bool b1, .int .i64 e1, .bool b2, .int .i64 e2]) :
 Calls Tryd.prog 60 #[.slice (some ⟨g, 0, none⟩) 3 3] w fun r w' => r = .returned (.int .i64 (ff b0 b1 b2 e0 e1 e2)) ∧ Below w.heap.size w w' := by
 have hg := h.inside
 have c0 := h.cell 0
 have c1 := h.cell 1
 have c2 := h.cell 2
 have c3 := h.cell 3
 have c4 := h.cell 4
 have c5 := h.cell 5
 simp at c0 c1 c2 c3 c4 c5
 cases b0
 · go_enter Tryd.func60, Tryd.ntmps60
   go_wp2_with fail
   refine wp_loop_rounds 4 ?_
   rw [rounds_succ]
   go_wp2
   go_ret
   exact ⟨ret_int rfl, by repeat (first | exact Below.refl _ _ | refine Below.alloc ?_ (by simp <;> omega) _ | refine Below.setCell ?_ (by simp <;> omega) _)⟩
 cases b1
 · go_enter Tryd.func60, Tryd.ntmps60
   go_wp2_with fail
   refine wp_loop_rounds 4 ?_
   rw [rounds_succ]
   go_wp2
   rw [rounds_succ]
   go_wp2
   go_ret
   exact ⟨ret_int rfl, by repeat (first | exact Below.refl _ _ | refine Below.alloc ?_ (by simp <;> omega) _ | refine Below.setCell ?_ (by simp <;> omega) _)⟩
 cases b2
 · go_enter Tryd.func60, Tryd.ntmps60
   go_wp2_with fail
   refine wp_loop_rounds 4 ?_
   rw [rounds_succ]
   go_wp2
   rw [rounds_succ]
   go_wp2
   rw [rounds_succ]
   go_wp2
   go_ret
   exact ⟨ret_int rfl, by repeat (first | exact Below.refl _ _ | refine Below.alloc ?_ (by simp <;> omega) _ | refine Below.setCell ?_ (by simp <;> omega) _)⟩
 · go_enter Tryd.func60, Tryd.ntmps60
   go_wp2_with fail
   refine wp_loop_rounds 4 ?_
   rw [rounds_succ]
   go_wp2
   rw [rounds_succ]
   go_wp2
   rw [rounds_succ]
   go_wp2
   rw [rounds_succ]
   go_wp2
   go_ret
   exact ⟨ret_int rfl, by repeat (first | exact Below.refl _ _ | refine Below.alloc ?_ (by simp <;> omega) _ | refine Below.setCell ?_ (by simp <;> omega) _)⟩
theorem Between_any (n a b : Int) (w : World) :
 Calls Tryd.prog 62 #[.int .i64 n, .int .i64 a, .int .i64 b] w fun r w' => r = .returned (.bool (btwB n a b)) ∧ Below w.heap.size w w' :=
 (between_any n a b w).mono fun r w' ⟨h1, h2⟩ => ⟨h1, by subst h2; exact Below.refl _ _⟩
set_option maxHeartbeats 4000000 in
theorem Check_any (fx fy tx ty pe pl de dl ld sv : Int) (w : World) :
 Calls Tryd.prog 40 #[.agg #[.int .i64 fx, .int .i64 fy, .int .i64 tx, .int .i64 ty, .int .i64 pe, .int .i64 pl, .int .i64 de, .int .i64 dl, .int .i64 ld, .int .i64 sv]] w fun r w' => r = .returned (.int .i64 (chk fx fy tx ty pe pl de dl ld sv)) ∧ Below w.heap.size w w' := by
 have hP0 : At (w.alloc (.cells #[.int .i64 fx, .int .i64 fy, .int .i64 tx, .int .i64 ty, .int .i64 pe, .int .i64 pl, .int .i64 de, .int .i64 dl, .int .i64 ld, .int .i64 sv] 68)) w.heap.size 68 #[.int .i64 fx, .int .i64 fy, .int .i64 tx, .int .i64 ty, .int .i64 pe, .int .i64 pl, .int .i64 de, .int .i64 dl, .int .i64 ld, .int .i64 sv] := At.new w _ _
 have hb0 : Below w.heap.size w (w.alloc (.cells #[.int .i64 fx, .int .i64 fy, .int .i64 tx, .int .i64 ty, .int .i64 pe, .int .i64 pl, .int .i64 de, .int .i64 dl, .int .i64 ld, .int .i64 sv] 68)) := (Below.refl _ _).alloc (Nat.le_refl _) _
 obtain ⟨b1, h1⟩ : ∃ b, mayB (fx, fy) = b := ⟨_, rfl⟩
 obtain ⟨b2, h2⟩ : ∃ b, okB pe pl = b := ⟨_, rfl⟩
 obtain ⟨b3, h3⟩ : ∃ b, btwB ld 1 1000 = b := ⟨_, rfl⟩
 have hE : chk fx fy tx ty pe pl de dl ld sv = ff (b1 && mayB (tx, ty)) (b2 && okB de dl) (b3 && btwB sv 0 1000) 4 5 6 := by unfold chk; rw [h1, h2, h3]
 rw [hE]
 clear hE
 obtain ⟨b4, h4⟩ : ∃ b, mayB (tx, ty) = b := ⟨_, rfl⟩
 obtain ⟨b5, h5⟩ : ∃ b, okB de dl = b := ⟨_, rfl⟩
 obtain ⟨b6, h6⟩ : ∃ b, btwB sv 0 1000 = b := ⟨_, rfl⟩
 rw [h4, h5, h6]
 have cF : ∀ w, Calls Tryd.prog 61 #[.agg #[.int .i64 fx, .int .i64 fy]] w fun e w' => e = .returned (.bool b1) ∧ Below w.heap.size w w' := fun w => by rw [← h1]; exact Place.May_any _ _ w
 have cT : ∀ w, Calls Tryd.prog 61 #[.agg #[.int .i64 tx, .int .i64 ty]] w fun e w' => e = .returned (.bool b4) ∧ Below w.heap.size w w' := fun w => by rw [← h4]; exact Place.May_any _ _ w
 have cP : ∀ w, Calls Tryd.prog 63 #[.agg #[.int .i64 pe, .int .i64 pl]] w fun e w' => e = .returned (.bool b2) ∧ Below w.heap.size w w' := fun w => by rw [← h2]; exact Window.May_any _ _ w
 have cD : ∀ w, Calls Tryd.prog 63 #[.agg #[.int .i64 de, .int .i64 dl]] w fun e w' => e = .returned (.bool b5) ∧ Below w.heap.size w w' := fun w => by rw [← h5]; exact Window.May_any _ _ w
 have cL : ∀ w, Calls Tryd.prog 62 #[.int .i64 ld, .int .i64 1, .int .i64 1000] w fun e w' => e = .returned (.bool b3) ∧ Below w.heap.size w w' := fun w => by rw [← h3]; exact Between_any _ _ _ w
 have cS : ∀ w, Calls Tryd.prog 62 #[.int .i64 sv, .int .i64 0, .int .i64 1000] w fun e w' => e = .returned (.bool b6) ∧ Below w.heap.size w w' := fun w => by rw [← h6]; exact Between_any _ _ _ w
 clear h1 h2 h3 h4 h5 h6
 go_enter Tryd.func40, Tryd.ntmps40
 go_wp2_with fail
 generalize (w.alloc (.cells #[.int .i64 fx, .int .i64 fy, .int .i64 tx, .int .i64 ty, .int .i64 pe, .int .i64 pl, .int .i64 de, .int .i64 dl, .int .i64 ld, .int .i64 sv] 68)) = w0 at *
 have c0 := hP0.cell 0
 have c1 := hP0.cell 1
 have c2 := hP0.cell 2
 have c3 := hP0.cell 3
 have c4 := hP0.cell 4
 have c5 := hP0.cell 5
 have c6 := hP0.cell 6
 have c7 := hP0.cell 7
 have c8 := hP0.cell 8
 have c9 := hP0.cell 9
 simp at c0 c1 c2 c3 c4 c5 c6 c7 c8 c9
 have kc0 := cell_regrown c0
 have kc1 := cell_regrown c1
 have kc2 := cell_regrown c2
 have kc3 := cell_regrown c3
 have kc4 := cell_regrown c4
 have kc5 := cell_regrown c5
 have kc6 := cell_regrown c6
 have kc7 := cell_regrown c7
 have kc8 := cell_regrown c8
 have kc9 := cell_regrown c9
 have kF := fun d os => Calls.regrown_of (cF (grow (redrawn w0 d) os))
 have kT := fun d os => Calls.regrown_of (cT (grow (redrawn w0 d) os))
 have kP := fun d os => Calls.regrown_of (cP (grow (redrawn w0 d) os))
 have kD := fun d os => Calls.regrown_of (cD (grow (redrawn w0 d) os))
 have kL := fun d os => Calls.regrown_of (cL (grow (redrawn w0 d) os))
 have kS := fun d os => Calls.regrown_of (cS (grow (redrawn w0 d) os))
 clear cF cT cP cD cL cS
 refine wp_region_below_tail 27 (by kernel_rfl) (by kernel_rfl) (by kernel_rfl) ?_
 simp only [List.take_succ_cons, List.take_zero, List.drop_succ_cons, List.drop_zero]
 cases b1 <;> cases b2 <;> cases b3
 all_goals
  repeat (go_big_quiet_step (first | with_reducible exact kF _ _ | with_reducible exact kT _ _ | with_reducible exact kP _ _ | with_reducible exact kD _ _ | with_reducible exact kL _ _ | with_reducible exact kS _ _))
  refine wpQuiet_nil ?_
  intro _ hw'
  obtain ⟨⟨dq, osq⟩, hw''⟩ := hw'
  subst hw''
  have hB := hb0.trans ((below_regrown w0 dq osq).mono hb0.size)
  generalize grow (redrawn w0 dq) osq = w2 at *
  clear kF kT kP kD kL kS kc0 kc1 kc2 kc3 kc4 kc5 kc6 kc7 kc8 kc9 c0 c1 c2 c3 c4 c5 c6 c7 c8 c9 hP0 hb0
  go_wp2_with fail
  refine (firstFault_any _ _ _ 4 5 6 _ _ (At.new _ _ _)).mono ?_
  rintro e w3 ⟨rfl, hb3⟩
  have hE := (hB.alloc hB.size _).trans (hb3.mono (by simp; have := hB.size; omega))
  clear hb3 hB
  go_wp2
  go_ret
  exact ⟨ret_int (by simp), hE⟩
set_option maxHeartbeats 4000000 in
theorem Vehicle_any (hx hy cp st en : Int) (w : World) :
 Calls Tryd.prog 39 #[.agg #[.int .i64 hx, .int .i64 hy, .int .i64 cp, .int .i64 st, .int .i64 en]] w fun r w' => r = .returned (.int .i64 (veh hx hy cp st en)) ∧ Below w.heap.size w w' := by
 have hP0 : At (w.alloc (.cells #[.int .i64 hx, .int .i64 hy, .int .i64 cp, .int .i64 st, .int .i64 en] 47)) w.heap.size 47 #[.int .i64 hx, .int .i64 hy, .int .i64 cp, .int .i64 st, .int .i64 en] := At.new w _ _
 have hb0 : Below w.heap.size w (w.alloc (.cells #[.int .i64 hx, .int .i64 hy, .int .i64 cp, .int .i64 st, .int .i64 en] 47)) := (Below.refl _ _).alloc (Nat.le_refl _) _
 obtain ⟨b1, h1⟩ : ∃ b, mayB (hx, hy) = b := ⟨_, rfl⟩
 obtain ⟨b2, h2⟩ : ∃ b, btwB cp 1 100000 = b := ⟨_, rfl⟩
 obtain ⟨b3, h3⟩ : ∃ b, btwB st 0 1048576 = b := ⟨_, rfl⟩
 obtain ⟨b4, h4⟩ : ∃ b, btwB en st 1048576 = b := ⟨_, rfl⟩
 have hE : veh hx hy cp st en = ff b1 b2 (b3 && b4) 4 7 7 := by unfold veh; rw [h1, h2, h3, h4]
 rw [hE]
 clear hE
 have cH : ∀ w, Calls Tryd.prog 61 #[.agg #[.int .i64 hx, .int .i64 hy]] w fun e w' => e = .returned (.bool b1) ∧ Below w.heap.size w w' := fun w => by rw [← h1]; exact Place.May_any _ _ w
 have cC : ∀ w, Calls Tryd.prog 62 #[.int .i64 cp, .int .i64 1, .int .i64 100000] w fun e w' => e = .returned (.bool b2) ∧ Below w.heap.size w w' := fun w => by rw [← h2]; exact Between_any _ _ _ w
 have cS : ∀ w, Calls Tryd.prog 62 #[.int .i64 st, .int .i64 0, .int .i64 1048576] w fun e w' => e = .returned (.bool b3) ∧ Below w.heap.size w w' := fun w => by rw [← h3]; exact Between_any _ _ _ w
 have cE : ∀ w, Calls Tryd.prog 62 #[.int .i64 en, .int .i64 st, .int .i64 1048576] w fun e w' => e = .returned (.bool b4) ∧ Below w.heap.size w w' := fun w => by rw [← h4]; exact Between_any _ _ _ w
 clear h1 h2 h3 h4
 go_enter Tryd.func39, Tryd.ntmps39
 go_wp2_with fail
 generalize (w.alloc (.cells #[.int .i64 hx, .int .i64 hy, .int .i64 cp, .int .i64 st, .int .i64 en] 47)) = w0 at *
 have c0 := hP0.cell 0
 have c1 := hP0.cell 1
 have c2 := hP0.cell 2
 have c3 := hP0.cell 3
 have c4 := hP0.cell 4
 simp at c0 c1 c2 c3 c4
 have kc0 := cell_regrown c0
 have kc1 := cell_regrown c1
 have kc2 := cell_regrown c2
 have kc3 := cell_regrown c3
 have kc4 := cell_regrown c4
 have kH := fun d os => Calls.regrown_of (cH (grow (redrawn w0 d) os))
 have kC := fun d os => Calls.regrown_of (cC (grow (redrawn w0 d) os))
 have kS := fun d os => Calls.regrown_of (cS (grow (redrawn w0 d) os))
 have kE := fun d os => Calls.regrown_of (cE (grow (redrawn w0 d) os))
 clear cH cC cS cE
 refine wp_region_below_tail 19 (by kernel_rfl) (by kernel_rfl) (by kernel_rfl) ?_
 simp only [List.take_succ_cons, List.take_zero, List.drop_succ_cons, List.drop_zero]
 cases b3
 all_goals
  repeat (go_big_quiet_step (first | with_reducible exact kH _ _ | with_reducible exact kC _ _ | with_reducible exact kS _ _ | with_reducible exact kE _ _))
  refine wpQuiet_nil ?_
  intro _ hw'
  obtain ⟨⟨dq, osq⟩, hw''⟩ := hw'
  subst hw''
  have hB := hb0.trans ((below_regrown w0 dq osq).mono hb0.size)
  generalize grow (redrawn w0 dq) osq = w2 at *
  clear kH kC kS kE kc0 kc1 kc2 kc3 kc4 c0 c1 c2 c3 c4 hP0 hb0
  go_wp2_with fail
  refine (firstFault_any _ _ _ 4 7 7 _ _ (At.new _ _ _)).mono ?_
  rintro e w3 ⟨rfl, hb3⟩
  have hE := (hB.alloc hB.size _).trans (hb3.mono (by simp; have := hB.size; omega))
  clear hb3 hB
  go_wp2
  go_ret
  exact ⟨ret_int (by simp), hE⟩
end Go.Proofs.YteclpblfleakhaaDoor.Order

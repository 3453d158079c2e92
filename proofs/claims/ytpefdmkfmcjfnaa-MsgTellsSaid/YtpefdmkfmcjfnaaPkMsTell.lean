import Derived.Test.YtpefdmkfmcjfnaaPkOctPut
import Derived.Handy

namespace Go.Proofs.Ytpefdmkfmcjfnaa.Mp
open Go.RowKit Go.Sort Go.Proofs.Ytpefdmkfmcjfnaa.Mem Go.Proofs.Ytpefdmkfmcjfnaa.Route Go.Proofs.Ytpefdmkfmcjfnaa.Oct
set_option linter.unusedVariables false
def WrAt (w : World) (g : Nat) (s : Bs) : Prop := At w g 75 #[.string (str s)]
theorem WrAt.inside {w : World} {g : Nat} {s : Bs} (h : WrAt w g s) : g < w.heap.size := At.inside h
set_option maxRecDepth 100000 in
set_option maxHeartbeats 4000000 in
theorem wtell_any (g : Nat) (s : Bs) (n : Nat) (k : Int) (w : World) (hn : n < 18446744073709551616) (hs : s.length ≤ 281474976710000) (h : WrAt w g s) :
 Calls Try.prog 89 #[.pointer (some ⟨g, 0, none⟩), .int .u64 (n : Int), .int .i64 k] w fun e w' => e = .returned (.int .u64 (n : Int)) ∧ WrAt w' g (putB s n k) ∧ w.grownBy w' (some g) := by
 have hp := Lib.hid (Put_any s n k hn hs w)
 have c0 := At.cell h 0
 simp at c0
 go_enter Try.func89, Try.ntmps89
 go_wp2_with fail
 refine hp.out.mono ?_
 rintro e w1 ⟨rfl, hb⟩
 have hA1 := At.keep h hb h.inside
 have hW : WrAt (w1.setCell ⟨g, 0, none⟩ (.string (str (putB s n k)))) g (putB s n k) := by
  have := hA1.put 0 (.string (str (putB s n k)))
  simpa [WrAt] using this
 have hC : w.grownBy (w1.setCell ⟨g, 0, none⟩ (.string (str (putB s n k)))) (some g) := ((Chg.of_below (r := g) hb).set (.inr rfl) 0 (.string (str (putB s n k)))).grown
 have d0 := hA1.cell 0
 have f0 := hA1.free 0
 simp at d0
 replace hW := Lib.hid hW
 replace hC := Lib.hid hC
 clear hA1 h c0
 go_wp2
 go_ret
 exact ⟨rfl, hW.out, hC.out⟩
set_option maxRecDepth 100000 in
set_option maxHeartbeats 4000000 in
theorem rtell_any (r : Nat) (st : St) (n k : Int) (w : World) (hl : ∀ l, st = some l → l.length ≤ 9223372036854775000) (h : RdAt w r st) :
 Calls Try.prog 96 #[.agg #[.pointer (some ⟨r, 0, none⟩)], .int .u64 n, .int .i64 k] w fun e w' => e = .returned (.int .u64 ((numS st k).1 : Int)) ∧ RdAt w' r (numS st k).2 ∧ w.grownBy w' (some r) := by
 have hin := h.inside
 have hA := At.new w 106 #[.pointer (some ⟨r, 0, none⟩)]
 have hB : Below w.heap.size w (w.alloc (.cells #[.pointer (some ⟨r, 0, none⟩)] 106)) := (Below.refl _ _).alloc (Nat.le_refl _) _
 have hN := Lib.hid (Num_any k r st _ hl (h.keep hB hin))
 go_enter Try.func96, Try.ntmps96
 go_wp2_with fail
 refine hN.out.mono ?_
 rintro e w1 ⟨rfl, hR, hG⟩
 have hC : w.grownBy w1 (some r) := ⟨hG.os.trans hB.os, hG.tape.trans hB.tape, hG.output.trans hB.output, Nat.le_trans hB.size hG.size, fun j hj hr => (hG.block j (Nat.lt_of_lt_of_le hj hB.size) hr).trans (hB.block j hj)⟩
 replace hC := Lib.hid hC
 replace hR := Lib.hid hR
 clear hG hN hA hB
 go_wp2
 go_ret
 exact ⟨rfl, hR.out, hC.out⟩
end Go.Proofs.Ytpefdmkfmcjfnaa.Mp
namespace Go.Proofs.Ytpefdmkfmcjfnaa.Tail
def okB (l : List Oper) (n : Nat) : Bool :=
 decide (n < l.length) &&
 ((List.range n).all fun j => ((l[j]?).map fun o => ((o.guard.map fun g => decide (g.1 < j)).getD true) && o.after.toList.all fun e => decide (e.on < j)).getD false) &&
 ((List.range n).all fun h => (List.range (n + 1)).any fun k => decide (h < k) && ((l[k]?).map fun o => o.after.toList.any fun e => Region.binds .any e && decide (e.on = h)).getD false) &&
 ((List.range (l.length - n)).all fun t => t == 0 || ((l[n + t]?).map fun o => o.after.toList.any fun e => Region.binds .any e && decide (e.on + 1 = n + t)).getD false) &&
 Region.seqB .any l.toArray (l.length - n) n (Array.replicate n true ++ Array.replicate (l.length - n) false)
structure Ok (l : List Oper) (n : Nat) : Prop where
 lt : n < l.length
 head : ∀ j o, j < n → l[j]? = some o → (∀ g, o.guard = some g → g.1 < j) ∧ ∀ e ∈ o.after, e.on < j
 needed : ∀ h, h < n → ∃ k o, h < k ∧ k ≤ n ∧ l[k]? = some o ∧ ∃ e ∈ o.after, Region.binds .any e = true ∧ e.on = h
 tail : ∀ t o, n < t → l[t]? = some o → ∃ e ∈ o.after, Region.binds .any e = true ∧ e.on + 1 = t
 seq : Region.seqB .any l.toArray (l.length - n) n (Array.replicate n true ++ Array.replicate (l.length - n) false) = true
theorem ok_of {l : List Oper} {n : Nat} (h : okB l n = true) : Ok l n := by
 simp only [okB, Bool.and_eq_true, decide_eq_true_eq, List.all_eq_true, List.mem_range] at h
 obtain ⟨⟨⟨⟨h1, h2⟩, h3⟩, h4⟩, h5⟩ := h
 refine ⟨h1, fun j o hj ho => ?_, fun k hk => ?_, fun t o ht ho => ?_, h5⟩
 · have := h2 j hj
   rw [ho] at this
   simp only [Option.map_some, Option.getD_some, Bool.and_eq_true, List.all_eq_true, decide_eq_true_eq] at this
   exact ⟨fun g hg => by have h1 := this.1; rw [hg] at h1; simpa using h1, fun e he => this.2 e (by simpa using he)⟩
 · have h6 := h3 k hk
   rw [List.any_eq_true] at h6
   obtain ⟨i, hi, h7⟩ := h6
   rw [List.mem_range] at hi
   simp only [Bool.and_eq_true, decide_eq_true_eq] at h7
   obtain ⟨h8, h9⟩ := h7
   cases ho : l[i]? with
   | none => rw [ho] at h9; simp at h9
   | some o =>
    rw [ho] at h9
    simp only [Option.map_some, Option.getD_some, List.any_eq_true, Bool.and_eq_true, decide_eq_true_eq] at h9
    obtain ⟨e, he, hb, hon⟩ := h9
    exact ⟨i, o, h8, by omega, ho, e, by simpa using he, hb, hon⟩
 · have hlt : t < l.length := (List.getElem?_eq_some_iff.1 ho).1
   have h6 := h4 (t - n) (by omega)
   rw [show n + (t - n) = t by omega, ho] at h6
   simp only [Option.map_some, Option.getD_some, Bool.or_eq_true, beq_iff_eq, List.any_eq_true, Bool.and_eq_true, decide_eq_true_eq] at h6
   rcases h6 with h6 | ⟨e, he, hb, hon⟩
   · omega
   · exact ⟨e, by simpa using he, hb, hon⟩
variable {P : Program} {l : List Oper} {n : Nat} {C : World → Prop}
structure Fit (l : List Oper) (n : Nat) (lh la : Array Bool) : Prop where
 size : lh.size = n
 sizeAll : la.size = l.length
 same : ∀ j, j < n → la[j]? = lh[j]?
 rest : ∀ j, n ≤ j → j < l.length → la[j]? = some false
 closed : ∀ j o, j < n → la[j]? = some true → l[j]? = some o → ∀ e ∈ o.after, Region.binds .any e = true → la.getD e.on false = true
theorem getD_set {la : Array Bool} {i k : Nat} (h : la.getD k false = true) : (la.setIfInBounds i true).getD k false = true := by
 rw [Array.getD_eq_getD_getElem?] at h ⊢
 rw [Array.getElem?_setIfInBounds]
 by_cases hik : i = k
 · subst hik
   cases hl : la[i]? with
   | none => rw [hl] at h; simp at h
   | some b =>
    have := (Array.getElem?_eq_some_iff.1 hl).1
    simp [this]
 · rw [if_neg hik]
   exact h
theorem Fit.set {lh la : Array Bool} (h : Fit l n lh la) {i : Nat} (hi : i < n) (hr : ∀ o, l[i]? = some o → ∀ e ∈ o.after, Region.binds .any e = true → la.getD e.on false = true) : Fit l n (lh.setIfInBounds i true) (la.setIfInBounds i true) := by
 refine ⟨by simpa using h.size, by simpa using h.sizeAll, fun j hj => ?_, fun j h1 h2 => ?_, fun j o hj ht ho e he hb => ?_⟩
 · have := h.same j hj
   have hs := h.size
   simp only [Array.getElem?_setIfInBounds]
   by_cases hij : i = j
   · subst hij
     have h3 : i < la.size := by
      have e : lh[i]? = some (lh[i]'(by omega)) := Array.getElem?_eq_getElem (by omega)
      rw [e] at this
      exact (Array.getElem?_eq_some_iff.1 this).1
     simp [h3, hs, hi]
   · simp [hij, this]
 · have := h.rest j h1 h2
   rw [Array.getElem?_setIfInBounds, if_neg (by omega)]
   exact this
 · apply getD_set
   by_cases hij : i = j
   · subst hij
     exact hr o ho e he hb
   · rw [Array.getElem?_setIfInBounds, if_neg hij] at ht
     exact h.closed j o hj ht ho e he hb
theorem stuck (hk : Ok l n) {lh la : Array Bool} (hf : Fit l n lh la) : ∀ (m h : Nat), h < n → n - h ≤ m → la.getD h true = false → n ∉ Region.ready .any l.toArray la
 | 0, h, hh, hm, _ => by omega
 | m + 1, h, hh, hm, hu => by
  obtain ⟨k, o, h1, h2, ho, e, he, hb, hon⟩ := hk.needed h hh
  have hu' : la.getD h false = false := by
   rw [Array.getD_eq_getD_getElem?] at hu ⊢
   cases hl : la[h]? with
   | none => rfl
   | some b => rw [hl] at hu; simpa using hu
  by_cases hkn : k = n
  · subst hkn
    intro hr
    rw [mem_ready] at hr
    obtain ⟨_, o', ho', hall⟩ := hr
    have e1 : o' = o := by
     rw [show l.toArray[k]? = l[k]? by simp] at ho'
     rw [ho] at ho'
     exact (Option.some.inj ho').symm
    subst e1
    have := hall e he hb
    rw [hon, hu'] at this
    cases this
  · have hkl : k < n := by omega
    refine stuck hk hf m k hkl (by omega) ?_
    cases hv : la[k]? with
    | none =>
     have := hk.lt
     rw [Array.getElem?_eq_none_iff, hf.sizeAll] at hv
     omega
    | some b =>
     rw [Array.getD_eq_getD_getElem?, hv]
     cases b
     · rfl
     · have := hf.closed k o hkl hv ho e he hb
       rw [hon, hu'] at this
       cases this
theorem qOp_all (hk : Ok l n) {i : Nat} (hi : i < n) {K : Act → Prop} {a : Act} (h : qOp P (l.take n).toArray C i K a) : qOp P l.toArray C i K a := by
 have e : (l.take n).toArray[i]? = l.toArray[i]? := by simp [hi]
 unfold qOp at h ⊢
 rw [e] at h
 cases ho : l.toArray[i]? with
 | none => rw [ho] at h; exact h
 | some o =>
  rw [ho] at h
  have hg := (hk.head i o hi (by simpa using ho)).1
  have hw : Region.wanted o (yielded (l.take n).toArray a.tmps) = Region.wanted o (yielded l.toArray a.tmps) := by
   unfold Region.wanted
   cases hgo : o.guard with
   | none => rfl
   | some g =>
    have hlt := hg g hgo
    have e2 : (l.take n).toArray[g.1]? = l.toArray[g.1]? := by simp [show g.1 < n by omega]
    have e3 : yielded (l.take n).toArray a.tmps g.1 = yielded l.toArray a.tmps g.1 := by unfold yielded; rw [e2]
    simp only [e3]
  dsimp only at h ⊢
  rw [hw] at h
  exact h
theorem least {p : Nat → Bool} : ∀ (n : Nat), (∃ j, j < n ∧ p j = false) → ∃ j, j < n ∧ p j = false ∧ ∀ k, k < j → p k = true
 | 0, ⟨j, hj, _⟩ => absurd hj (by omega)
 | n + 1, ⟨j, hj, hp⟩ => by
  by_cases h : ∃ k, k < n ∧ p k = false
  · obtain ⟨k, h1, h2, h3⟩ := least n h
    exact ⟨k, by omega, h2, h3⟩
  · have hjn : j = n := by
     apply Classical.byContradiction
     intro hne
     exact h ⟨j, by omega, hp⟩
    subst hjn
    refine ⟨j, hj, hp, fun k hk => ?_⟩
    cases hpk : p k
    · exact absurd ⟨k, hk, hpk⟩ h
    · rfl
theorem tail_any (hk : Ok l n) {Qa : Act → Prop} {Q : Exit → Act → World → Prop} (hQ : ∀ a w, C w → Qa a → wpList P l.toArray Q (l.drop n) a w) :
 ∀ (fuel : Nat) (lh la : Array Bool) (a : Act) (w : World), C w → Fit l n lh la → lh.toList.count false = fuel → wpAnyQ P .any (l.take n).toArray C Qa fuel lh a → wpAny P .any l.toArray Q (fuel + (l.length - n)) la a w
 | 0, lh, la, a, w, hw, hf, hc, h => by
  have hall : ∀ j, j < n → la[j]? = some true := by
   intro j hj
   rw [hf.same j hj]
   have hlt : j < lh.size := by rw [hf.size]; exact hj
   rw [Array.getElem?_eq_getElem hlt]
   cases hb : lh[j]
   · exfalso
     have : false ∈ lh.toList := by rw [← hb]; simp
     have := List.count_pos_iff.2 this
     omega
   · rfl
  have hla : la = Array.replicate n true ++ Array.replicate (l.length - n) false := by
   apply Array.ext_getElem?
   intro j
   by_cases h1 : j < n
   · rw [hall j h1, Array.getElem?_append_left (by simpa using h1)]
     simp [h1]
   · rw [Array.getElem?_append_right (by simpa using (by omega : n ≤ j))]
     by_cases h2 : j < l.length
     · rw [hf.rest j (by omega) h2, Array.getElem?_replicate]
       simp
       omega
     · rw [Array.getElem?_eq_none (by rw [hf.sizeAll]; omega), Array.getElem?_eq_none (by simp; omega)]
  subst hla
  have := wpAny_of_seq (P := P) (md := .any) (ops := l.toArray) (Q' := Q) (l.drop n) n (Array.replicate n true ++ Array.replicate (l.length - n) false) a w (fun j => by simp [List.getElem?_drop]) (by simpa using hk.seq) (hQ a w hw h.2)
  simpa using this
 | fuel + 1, lh, la, a, w, hw, hf, hc, h => by
  have hsome : ∃ j, j < n ∧ lh.getD j true = false := by
   have : false ∈ lh.toList := List.count_pos_iff.1 (by omega)
   obtain ⟨j, hj, hb⟩ := List.getElem_of_mem this
   have hj' : j < lh.size := by simpa using hj
   refine ⟨j, by rw [← hf.size]; exact hj', ?_⟩
   simp only [Array.getElem_toList] at hb
   simp [hj', hb]
  have hgd : ∀ j, j < n → la.getD j true = lh.getD j true := fun j hj => by
   have := hf.same j hj
   rw [Array.getD_eq_getD_getElem?, Array.getD_eq_getD_getElem?, this]
  have hgd' : ∀ j, j < n → la.getD j false = lh.getD j false := fun j hj => by
   have := hf.same j hj
   rw [Array.getD_eq_getD_getElem?, Array.getD_eq_getD_getElem?, this]
  have hboth : ∀ j, j < n → lh.getD j false = lh.getD j true := fun j hj => by
   have hlt : j < lh.size := by rw [hf.size]; exact hj
   simp [hlt]
  obtain ⟨j, hj, hpj, hmin⟩ := least (p := fun j => lh.getD j true) n hsome
  have hready : j ∈ Region.ready .any l.toArray la := by
   rw [mem_ready]
   obtain ⟨o, ho⟩ : ∃ o, l[j]? = some o := ⟨l[j]'(by have := hk.lt; omega), List.getElem?_eq_getElem (by have := hk.lt; omega)⟩
   refine ⟨by rw [hgd j hj]; exact hpj, o, by simpa using ho, fun e he _ => ?_⟩
   have h1 := (hk.head j o hj ho).2 e he
   rw [hgd' _ (by omega), hboth _ (by omega)]
   exact hmin _ h1
  have key : (Region.ready .any l.toArray la = [] → Q .normal a w) ∧ ∀ i ∈ Region.ready .any l.toArray la, wpOp P l.toArray Q i (wpAny P .any l.toArray Q (fuel + (l.length - n)) (la.setIfInBounds i true)) a w := by
   refine ⟨fun h0 => (by rw [h0] at hready; cases hready), fun i hi => ?_⟩
   rw [mem_ready] at hi
   obtain ⟨hi0, o, ho, hall⟩ := hi
   have ho' : l[i]? = some o := by simpa using ho
   have hin : i < n := by
    apply Classical.byContradiction
    intro hni
    by_cases hin0 : i = n
    · subst hin0
      exact stuck hk hf i j hj (by omega) (by rw [hgd j hj]; exact hpj) (mem_ready.2 ⟨hi0, o, ho, hall⟩)
    · obtain ⟨e, he, hb, hon⟩ := hk.tail i o (by omega) ho'
      have h1 := hall e he hb
      have hlt : i < l.length := (List.getElem?_eq_some_iff.1 ho').1
      have h2 := hf.rest e.on (by omega) (by omega)
      rw [Array.getD_eq_getD_getElem?, h2] at h1
      cases h1
   have hih : i ∈ Region.ready .any (l.take n).toArray lh := by
    rw [mem_ready]
    refine ⟨by rw [← hgd i hin]; exact hi0, o, by simp [hin, ho'], fun e he hb => ?_⟩
    have h1 := (hk.head i o hin ho').2 e he
    rw [← hgd' _ (by omega)]
    exact hall e he hb
   refine wpOp_of_qOp hw (fun a' w' hw' hK => ?_) (qOp_all hk hin (h.2 i hih))
   refine tail_any hk hQ fuel _ _ a' w' hw' (hf.set hin (fun o1 ho1 e he hb => by rw [ho'] at ho1; cases ho1; exact hall e he hb)) ?_ hK
   have hlt : i < lh.toList.length := by simpa [hf.size] using hin
   have hfalse : lh.toList[i] = false := by
    have h2 : lh.getD i true = false := by rw [← hgd i hin]; exact hi0
    have hlt' : i < lh.size := by simpa using hlt
    simpa [hlt'] using h2
   rw [Array.toList_setIfInBounds, List.count_set hlt, hfalse, hc]
   simp
  rw [show fuel + 1 + (l.length - n) = (fuel + (l.length - n)) + 1 by omega]
  exact key
theorem wp_region_quiet_tail {id : Nat} {Q : Exit → Act → World → Prop} {a : Act} {w : World} (n : Nat) (hm : P.follows .mixedOrders = true) (hB : Region.lexB .any (l.take n).toArray = true) (hT : okB l n = true) (hC : C { w with drawn := w.drawn + 1 })
 (h : wpQuiet P (l.take n).toArray C (fun a' => ∀ w', C w' → wpList P l.toArray Q (l.drop n) a' w') (l.take n) a) : (Code.region id l.toArray true).wp P Q a w := by
 have hk := ok_of hT
 simp only [Region.lexB, Bool.and_eq_true] at hB
 have hlen : (l.take n).length = n := by simp; have := hk.lt; omega
 have h1 := wpAnyQ_lex (P := P) (C := C) (md := .any) (ops := (l.take n).toArray) hB.1 (l.take n) 0 (Array.replicate n false) a (by simp) (by simpa [hlen] using hB.2) h
 refine wp_region_any hm ?_
 have h2 := tail_any (P := P) (Q := Q) hk (Qa := fun a' => ∀ w', C w' → wpList P l.toArray Q (l.drop n) a' w') (fun a w hw h => h w hw) (l.take n).length (Array.replicate n false) (Array.replicate l.length false) a { w with drawn := w.drawn + 1 } hC
  ⟨by simp, by simp, fun j hj => by have := hk.lt; rw [Array.getElem?_replicate, Array.getElem?_replicate, if_pos hj, if_pos (by omega)], fun j h1 h2 => by simp [h2], fun j o hj ht => by rw [Array.getElem?_replicate] at ht; split at ht <;> cases ht⟩ (by simp [hlen]) h1
 rw [hlen, show n + (l.length - n) = l.length by have := hk.lt; omega] at h2
 simpa using h2
open Go.Sort Go.RowKit in
theorem wp_region_below_tail {id : Nat} {Q : Exit → Act → World → Prop} {a : Act} {w : World} (n : Nat) (hm : P.follows .mixedOrders = true) (hB : Region.lexB .any (l.take n).toArray = true) (hT : okB l n = true)
 (h : wpQuiet P (l.take n).toArray (fun w' => ∃ p : Regrown, w' = grow (redrawn w p.d) p.os) (fun a' => ∀ w', (∃ p : Regrown, w' = grow (redrawn w p.d) p.os) → wpList P l.toArray Q (l.drop n) a' w') (l.take n) a) : (Code.region id l.toArray true).wp P Q a w :=
 wp_region_quiet_tail (C := fun w' => ∃ p : Regrown, w' = grow (redrawn w p.d) p.os) n hm hB hT ⟨⟨w.drawn + 1, #[]⟩, by rw [grow_empty]; rfl⟩ h
end Go.Proofs.Ytpefdmkfmcjfnaa.Tail
namespace Go.Proofs.Ytpefdmkfmcjfnaa.Float
open Go.Sort Go.RowKit
open Go.Proofs.Ytpefdmkfmcjfnaa.Tail (getD_set least)
def okB (l : List Oper) (n : Nat) (ds : List Tmp) : Bool :=
 decide (n + ds.length < l.length) && decide ds.Nodup &&
 ((List.range n).all fun j => ((l[j]?).map fun o => ((o.guard.map fun g => decide (g.1 < j)).getD true) && (o.after.toList.all fun e => decide (e.on < j)) && (ds.all fun d => !(o.looksAt l.toArray).contains d && o.dst != some d) &&
  (List.range j).all fun i => ((l[i]?).map fun o' => o.dst == none || o.dst != o'.dst).getD false).getD false) &&
 ((List.range ds.length).all fun i => ((l[n + i]?).map fun o => o.guard.isNone && o.dst == ds[i]? && o.after.toList.all fun e => decide (e.on < n)).getD false) &&
 ((List.range (n + ds.length)).all fun h => (List.range (n + ds.length + 1)).any fun k => decide (h < k) && ((l[k]?).map fun o => o.after.toList.any fun e => Region.binds .any e && decide (e.on = h)).getD false) &&
 ((List.range (l.length - (n + ds.length))).all fun t => t == 0 || ((l[n + ds.length + t]?).map fun o => o.after.toList.any fun e => Region.binds .any e && decide (e.on + 1 = n + ds.length + t)).getD false) &&
 Region.seqB .any l.toArray (l.length - (n + ds.length)) (n + ds.length) (Array.replicate (n + ds.length) true ++ Array.replicate (l.length - (n + ds.length)) false)
structure Ok (l : List Oper) (n : Nat) (ds : List Tmp) : Prop where
 lt : n + ds.length < l.length
 nodup : ds.Nodup
 head : ∀ j o, j < n → l[j]? = some o → (∀ g, o.guard = some g → g.1 < j) ∧ (∀ e ∈ o.after, e.on < j) ∧ (∀ d ∈ ds, d ∉ o.looksAt l.toArray ∧ o.dst ≠ some d)
 apart : ∀ i j o o', i < j → j < n → l[j]? = some o → l[i]? = some o' → o.dst = none ∨ o.dst ≠ o'.dst
 lays : ∀ i o, i < ds.length → l[n + i]? = some o → o.guard = none ∧ o.dst = ds[i]? ∧ ∀ e ∈ o.after, e.on < n
 first : ∀ h, h < n + ds.length → ∃ k o, h < k ∧ k ≤ n + ds.length ∧ l[k]? = some o ∧ ∃ e ∈ o.after, Region.binds .any e = true ∧ e.on = h
 tail : ∀ t o, n + ds.length < t → l[t]? = some o → ∃ e ∈ o.after, Region.binds .any e = true ∧ e.on + 1 = t
 seq : Region.seqB .any l.toArray (l.length - (n + ds.length)) (n + ds.length) (Array.replicate (n + ds.length) true ++ Array.replicate (l.length - (n + ds.length)) false) = true
theorem ok_of {l : List Oper} {n : Nat} {ds : List Tmp} (h : okB l n ds = true) : Ok l n ds := by
 simp only [okB, Bool.and_eq_true, decide_eq_true_eq, List.all_eq_true, List.mem_range] at h
 obtain ⟨⟨⟨⟨⟨⟨h1, h2⟩, h3⟩, h4⟩, h5⟩, h6⟩, h7⟩ := h
 have hd : ∀ j o, j < n → l[j]? = some o → (∀ g, o.guard = some g → g.1 < j) ∧ (∀ e ∈ o.after, e.on < j) ∧ (∀ d ∈ ds, d ∉ o.looksAt l.toArray ∧ o.dst ≠ some d) ∧ ∀ i, i < j → ∀ o', l[i]? = some o' → o.dst = none ∨ o.dst ≠ o'.dst := by
  intro j o hj ho
  have := h3 j hj
  rw [ho] at this
  simp only [Option.map_some, Option.getD_some, Bool.and_eq_true, List.all_eq_true, decide_eq_true_eq, List.mem_range] at this
  obtain ⟨⟨⟨t1, t2⟩, t3⟩, t4⟩ := this
  refine ⟨fun g hg => by rw [hg] at t1; simpa using t1, fun e he => t2 e (by simpa using he), fun d hd => ?_, fun i hi o' ho' => ?_⟩
  · have := t3 d hd
    simp at this
    exact this
  · have := t4 i hi
    rw [ho'] at this
    simp at this
    exact this
 refine ⟨h1, h2, fun j o hj ho => ⟨(hd j o hj ho).1, (hd j o hj ho).2.1, (hd j o hj ho).2.2.1⟩, fun i j o o' hij hj ho ho' => (hd j o hj ho).2.2.2 i hij o' ho', fun i o hi ho => ?_, fun h hh => ?_, fun t o ht ho => ?_, h7⟩
 · have := h4 i hi
   rw [ho] at this
   simp only [Option.map_some, Option.getD_some, Bool.and_eq_true, List.all_eq_true, decide_eq_true_eq, Option.isNone_iff_eq_none, beq_iff_eq] at this
   exact ⟨this.1.1, this.1.2, fun e he => this.2 e (by simpa using he)⟩
 · have h8 := h5 h hh
   rw [List.any_eq_true] at h8
   obtain ⟨i, hi, h9⟩ := h8
   rw [List.mem_range] at hi
   simp only [Bool.and_eq_true, decide_eq_true_eq] at h9
   obtain ⟨h10, h11⟩ := h9
   cases ho : l[i]? with
   | none => rw [ho] at h11; simp at h11
   | some o =>
    rw [ho] at h11
    simp only [Option.map_some, Option.getD_some, List.any_eq_true, Bool.and_eq_true, decide_eq_true_eq] at h11
    obtain ⟨e, he, hb, hon⟩ := h11
    exact ⟨i, o, h10, by omega, ho, e, by simpa using he, hb, hon⟩
 · have hlt : t < l.length := (List.getElem?_eq_some_iff.1 ho).1
   have := h6 (t - (n + ds.length)) (by omega)
   rw [show n + ds.length + (t - (n + ds.length)) = t by omega, ho] at this
   simp only [Option.map_some, Option.getD_some, Bool.or_eq_true, beq_iff_eq, List.any_eq_true, Bool.and_eq_true, decide_eq_true_eq] at this
   rcases this with h | ⟨e, he, hb, hon⟩
   · omega
   · exact ⟨e, by simpa using he, hb, hon⟩
variable {P : Program} {l : List Oper} {n : Nat} {ds : List Tmp}
structure Fit (l : List Oper) (n : Nat) (ds : List Tmp) (lh la : Array Bool) (done : List (Nat × Nat)) : Prop where
 size : lh.size = n
 sizeAll : la.size = l.length
 same : ∀ j, j < n → la[j]? = lh[j]?
 laid : ∀ i, i < ds.length → la[n + i]? = some (decide (i ∈ done.map Prod.fst))
 rest : ∀ j, n + ds.length ≤ j → j < l.length → la[j]? = some false
 closed : ∀ (j : Nat) (o : Oper), la[j]? = some true → l[j]? = some o → ∀ e ∈ o.after, Region.binds .any e = true → la.getD e.on false = true
theorem stuck {l : List Oper} {n : Nat} {ds : List Tmp} (hk : Ok l n ds) {la : Array Bool} (hs : la.size = l.length)
 (hc : ∀ (j : Nat) (o : Oper), la[j]? = some true → l[j]? = some o → ∀ e ∈ o.after, Region.binds .any e = true → la.getD e.on false = true) :
 ∀ (f h : Nat), h < n + ds.length → n + ds.length - h ≤ f → la[h]? = some false → ∀ (o : Oper), l[n + ds.length]? = some o → ¬ ∀ e ∈ o.after, Region.binds .any e = true → la.getD e.on false = true
 | 0, h, hh, hf, _, _, _ => by omega
 | f + 1, h, hh, hf, hu, o, ho => by
  have hlt := hk.lt
  obtain ⟨k, o2, h1, h2, ho2, e, he, hb, hon⟩ := hk.first h hh
  by_cases hkK : k = n + ds.length
  · subst hkK
    have e1 : o2 = o := by rw [ho] at ho2; exact (Option.some.inj ho2).symm
    subst e1
    intro hall
    have h3 := hall e he hb
    rw [Array.getD_eq_getD_getElem?, hon, hu] at h3
    cases h3
  · refine stuck hk hs hc f k (by omega) (by omega) ?_ o ho
    have hkl : k < la.size := by omega
    rw [Array.getElem?_eq_getElem hkl]
    cases hv : la[k]
    · rfl
    · have h3 := hc k o2 (by rw [Array.getElem?_eq_getElem hkl, hv]) ho2 e he hb
      rw [Array.getD_eq_getD_getElem?, hon, hu] at h3
      cases h3
end Go.Proofs.Ytpefdmkfmcjfnaa.Float

import Derived.Test.YteclpblfleakhaaGreatDoorPkPriceMath
import Derived.Sort.CutIn

namespace Go.Proofs.YteclpblfleakhaaGreatDoor.Tail
set_option linter.unusedVariables false
theorem wpAnyIn_of_seq {F : Fence} {m : Nat} {P : Program} {md : Region.Mode} {ops : Array Oper} {Q' : Exit → Act → World → Prop} : ∀ (l : List Oper) (k : Nat) (listed : Array Bool) (a : Act) (w : World), (∀ j, l[j]? = ops[k + j]?) →
 Region.seqB md ops l.length k listed = true → wpListIn F m P ops Q' l a w → wpAnyIn F m P md ops Q' l.length listed a w
 | [], _, _, _, _, _, hB, h => ⟨by simpa [Region.seqB] using hB, h⟩
 | o :: l, k, listed, a, w, hl, hB, h => by
  have h0 : ops[k]? = some o := by simpa using (hl 0).symm
  simp only [List.length_cons, Region.seqB, Bool.and_eq_true, decide_eq_true_eq] at hB
  refine ⟨fun h1 => (by rw [hB.1] at h1; cases h1), fun i hi => ?_⟩
  rw [hB.1] at hi
  have hik : i = k := by simpa using hi
  subst hik
  have hw : wpOpIn F m P ops Q' i (wpListIn F m P ops Q' l) a w := by unfold wpOpIn; simp only [h0]; exact h
  exact wpOpIn_mono (fun a' w' h' => wpAnyIn_of_seq l (i + 1) _ a' w' (fun j => by have := hl (j + 1); simpa [Nat.add_assoc, Nat.add_comm 1 j] using this) hB.2 h') hw
theorem wpInW_of_quiet {m : Nat} {P : Program} {C : World → Prop} {o : Oper} {a : Act} {K : Act → Prop} {K' : Act → World → Prop} {Q' : Exit → Act → World → Prop} {w : World} (hw : C w) (h : ∀ a w', C w' → K a → K' a w') (hh : o.quiet P a C K) : o.wpIn Fence.wide m P a w K' Q' := by
 obtain ⟨v, h1, h2⟩ := hh
 have h3 := h1 w hw
 unfold Oper.quietAt at h3
 unfold Oper.wpIn
 refine ⟨fun _ _ => trivial, ?_⟩
 show o.uponIn Fence.wide m P a K' Q' ((execOp a.eval o).run P w)
 generalize (execOp a.eval o).run P w = r at *
 cases r with
 | ok x w' =>
  cases x <;> simp only [Oper.quietUpon] at h3 <;> simp only [Oper.uponIn]
  case value u =>
   obtain ⟨e1, e2⟩ := h3
   rw [e1, e2]
   exact h _ _ hw h2
  case skip =>
   obtain ⟨e1, e2⟩ := h3
   rw [e1, ← e2]
   exact h _ _ hw h2
  case enter f args =>
   obtain ⟨e1, hc⟩ := h3
   rw [e1]
   exact ⟨fun e => (by cases e), callsIn_wide.2 (hc.mono fun e w'' ⟨he, hw''⟩ => by subst he; exact h _ _ hw'' h2)⟩
 | halt x w' => simp only [Oper.quietUpon] at h3
theorem wpOpIn_of_qOp {m : Nat} {P : Program} {ops : Array Oper} {C : World → Prop} {i : Nat} {a : Act} {K : Act → Prop} {K' : Act → World → Prop} {Q' : Exit → Act → World → Prop} {w : World} (hC : C w) (h : ∀ a w', C w' → K a → K' a w') (hh : qOp P ops C i K a) : wpOpIn Fence.wide m P ops Q' i K' a w := by
 unfold qOp at hh
 unfold wpOpIn
 split
 · rename_i ho; simp only [ho] at hh; exact h _ _ hC hh
 · rename_i o ho
   simp only [ho] at hh
   split
   · rename_i hw; simp only [hw, if_true] at hh; exact wpInW_of_quiet hC h hh
   · rename_i hw; simp only [hw] at hh; exact ⟨fun _ _ => trivial, h _ _ hC hh⟩
variable {P : Program} {l : List Oper} {n m : Nat} {C : World → Prop}
theorem tailIn_any (hk : Ok l n) {Qa : Act → Prop} {Q : Exit → Act → World → Prop} (hQ : ∀ a w, C w → Qa a → wpListIn Fence.wide m P l.toArray Q (l.drop n) a w) :
 ∀ (fuel : Nat) (lh la : Array Bool) (a : Act) (w : World), C w → Fit l n lh la → lh.toList.count false = fuel → wpAnyQ P .any (l.take n).toArray C Qa fuel lh a → wpAnyIn Fence.wide m P .any l.toArray Q (fuel + (l.length - n)) la a w
 | 0, lh, la, a, w, hw, hf, hc, h => by
  have hall : ∀ j, j < n → la[j]? = some true := by
   intro j hj
   rw [hf.same j hj]
   have hlt : j < lh.size := by rw [hf.size]; exact hj
   rw [Array.getElem?_eq_getElem hlt]
   cases hb : lh[j]
   · exfalso
     have : false ∈ lh.toList := by rw [← hb]; simp
     have := List.count_pos_iff.2 this
     omega
   · rfl
  have hla : la = Array.replicate n true ++ Array.replicate (l.length - n) false := by
   apply Array.ext_getElem?
   intro j
   by_cases h1 : j < n
   · rw [hall j h1, Array.getElem?_append_left (by simpa using h1)]
     simp [h1]
   · rw [Array.getElem?_append_right (by simpa using (by omega : n ≤ j))]
     by_cases h2 : j < l.length
     · rw [hf.rest j (by omega) h2, Array.getElem?_replicate]
       simp
       omega
     · rw [Array.getElem?_eq_none (by rw [hf.sizeAll]; omega), Array.getElem?_eq_none (by simp; omega)]
  subst hla
  have := wpAnyIn_of_seq (F := Fence.wide) (m := m) (P := P) (md := .any) (ops := l.toArray) (Q' := Q) (l.drop n) n (Array.replicate n true ++ Array.replicate (l.length - n) false) a w (fun j => by simp [List.getElem?_drop]) (by simpa using hk.seq) (hQ a w hw h.2)
  simpa using this
 | fuel + 1, lh, la, a, w, hw, hf, hc, h => by
  have hsome : ∃ j, j < n ∧ lh.getD j true = false := by
   have : false ∈ lh.toList := List.count_pos_iff.1 (by omega)
   obtain ⟨j, hj, hb⟩ := List.getElem_of_mem this
   have hj' : j < lh.size := by simpa using hj
   refine ⟨j, by rw [← hf.size]; exact hj', ?_⟩
   simp only [Array.getElem_toList] at hb
   simp [hj', hb]
  have hgd : ∀ j, j < n → la.getD j true = lh.getD j true := fun j hj => by
   have := hf.same j hj
   rw [Array.getD_eq_getD_getElem?, Array.getD_eq_getD_getElem?, this]
  have hgd' : ∀ j, j < n → la.getD j false = lh.getD j false := fun j hj => by
   have := hf.same j hj
   rw [Array.getD_eq_getD_getElem?, Array.getD_eq_getD_getElem?, this]
  have hboth : ∀ j, j < n → lh.getD j false = lh.getD j true := fun j hj => by
   have hlt : j < lh.size := by rw [hf.size]; exact hj
   simp [hlt]
  obtain ⟨j, hj, hpj, hmin⟩ := least (p := fun j => lh.getD j true) n hsome
  have hready : j ∈ Region.ready .any l.toArray la := by
   rw [mem_ready]
   obtain ⟨o, ho⟩ : ∃ o, l[j]? = some o := ⟨l[j]'(by have := hk.lt; omega), List.getElem?_eq_getElem (by have := hk.lt; omega)⟩
   refine ⟨by rw [hgd j hj]; exact hpj, o, by simpa using ho, fun e he _ => ?_⟩
   have h1 := (hk.head j o hj ho).2 e he
   rw [hgd' _ (by omega), hboth _ (by omega)]
   exact hmin _ h1
  have key : (Region.ready .any l.toArray la = [] → Q .normal a w) ∧ ∀ i ∈ Region.ready .any l.toArray la, wpOpIn Fence.wide m P l.toArray Q i (wpAnyIn Fence.wide m P .any l.toArray Q (fuel + (l.length - n)) (la.setIfInBounds i true)) a w := by
   refine ⟨fun h0 => (by rw [h0] at hready; cases hready), fun i hi => ?_⟩
   rw [mem_ready] at hi
   obtain ⟨hi0, o, ho, hall⟩ := hi
   have ho' : l[i]? = some o := by simpa using ho
   have hin : i < n := by
    apply Classical.byContradiction
    intro hni
    by_cases hin0 : i = n
    · subst hin0
      exact stuck hk hf i j hj (by omega) (by rw [hgd j hj]; exact hpj) (mem_ready.2 ⟨hi0, o, ho, hall⟩)
    · obtain ⟨e, he, hb, hon⟩ := hk.tail i o (by omega) ho'
      have h1 := hall e he hb
      have hlt : i < l.length := (List.getElem?_eq_some_iff.1 ho').1
      have h2 := hf.rest e.on (by omega) (by omega)
      rw [Array.getD_eq_getD_getElem?, h2] at h1
      cases h1
   have hih : i ∈ Region.ready .any (l.take n).toArray lh := by
    rw [mem_ready]
    refine ⟨by rw [← hgd i hin]; exact hi0, o, by simp [hin, ho'], fun e he hb => ?_⟩
    have h1 := (hk.head i o hin ho').2 e he
    rw [← hgd' _ (by omega)]
    exact hall e he hb
   refine wpOpIn_of_qOp hw (fun a' w' hw' hK => ?_) (qOp_all hk hin (h.2 i hih))
   refine tailIn_any hk hQ fuel _ _ a' w' hw' (hf.set hin (fun o1 ho1 e he hb => by rw [ho'] at ho1; cases ho1; exact hall e he hb)) ?_ hK
   have hlt : i < lh.toList.length := by simpa [hf.size] using hin
   have hfalse : lh.toList[i] = false := by
    have h2 : lh.getD i true = false := by rw [← hgd i hin]; exact hi0
    have hlt' : i < lh.size := by simpa using hlt
    simpa [hlt'] using h2
   rw [Array.toList_setIfInBounds, List.count_set hlt, hfalse, hc]
   simp
  rw [show fuel + 1 + (l.length - n) = (fuel + (l.length - n)) + 1 by omega]
  exact key
theorem wpIn_region_quiet_tail {id : Nat} {Q : Exit → Act → World → Prop} {a : Act} {w : World} (n : Nat) (hm : P.follows .mixedOrders = true) (hB : Region.lexB .any (l.take n).toArray = true) (hT : okB l n = true) (hC : C { w with drawn := w.drawn + 1 })
 (h : wpQuiet P (l.take n).toArray C (fun a' => ∀ w', C w' → wpListIn Fence.wide m P l.toArray Q (l.drop n) a' w') (l.take n) a) : (Code.region id l.toArray true).wpIn Fence.wide m P Q a w := by
 have hk := ok_of hT
 simp only [Region.lexB, Bool.and_eq_true] at hB
 have hlen : (l.take n).length = n := by simp; have := hk.lt; omega
 have h1 := wpAnyQ_lex (P := P) (C := C) (md := .any) (ops := (l.take n).toArray) hB.1 (l.take n) 0 (Array.replicate n false) a (by simp) (by simpa [hlen] using hB.2) h
 refine wpIn_region_any hm ?_
 have h2 := tailIn_any (m := m) (P := P) (Q := Q) hk (Qa := fun a' => ∀ w', C w' → wpListIn Fence.wide m P l.toArray Q (l.drop n) a' w') (fun a w hw h => h w hw) (l.take n).length (Array.replicate n false) (Array.replicate l.length false) a { w with drawn := w.drawn + 1 } hC
  ⟨by simp, by simp, fun j hj => by have := hk.lt; rw [Array.getElem?_replicate, Array.getElem?_replicate, if_pos hj, if_pos (by omega)], fun j h1 h2 => by simp [h2], fun j o hj ht => by rw [Array.getElem?_replicate] at ht; split at ht <;> cases ht⟩ (by simp [hlen]) h1
 rw [hlen, show n + (l.length - n) = l.length by have := hk.lt; omega] at h2
 simpa using h2
open Go.Sort Go.RowKit in
theorem wpIn_region_below_tail {id : Nat} {Q : Exit → Act → World → Prop} {a : Act} {w : World} (n : Nat) (hm : P.follows .mixedOrders = true) (hB : Region.lexB .any (l.take n).toArray = true) (hT : okB l n = true)
 (h : wpQuiet P (l.take n).toArray (fun w' => ∃ p : Regrown, w' = grow (redrawn w p.d) p.os) (fun a' => ∀ w', (∃ p : Regrown, w' = grow (redrawn w p.d) p.os) → wpListIn Fence.wide m P l.toArray Q (l.drop n) a' w') (l.take n) a) : (Code.region id l.toArray true).wpIn Fence.wide m P Q a w :=
 wpIn_region_quiet_tail (C := fun w' => ∃ p : Regrown, w' = grow (redrawn w p.d) p.os) n hm hB hT ⟨⟨w.drawn + 1, #[]⟩, by rw [grow_empty]; rfl⟩ h
end Go.Proofs.YteclpblfleakhaaGreatDoor.Tail
namespace Go.Proofs.YteclpblfleakhaaGreatDoor.Price
open Go.RowKit Go.Sort Go.Shelf Go.Proofs.YteclpblfleakhaaGreatDoor.Mem Go.Proofs.YteclpblfleakhaaGreatDoor.Route Go.Proofs.YteclpblfleakhaaGreatDoor.When Go.Proofs.YteclpblfleakhaaGreatDoor.Load Go.Proofs.YteclpblfleakhaaGreatDoor.Feas Go.Proofs.YteclpblfleakhaaGreatDoor.Ins Go.Proofs.YteclpblfleakhaaGreatDoor.Plan Go.Proofs.YteclpblfleakhaaGreatDoor.Up
set_option linter.unusedVariables false
attribute [local go_sem] Oper.semAt_some
def toursL : Nat → List Vh → List Value → List (Nat × Vh × Value)
 | k, v :: vs, u :: us => (k, v, u) :: toursL (k + 1) vs us
 | _, _, _ => []
theorem toursL_length : ∀ {k : Nat} {vs : List Vh} {us : List Value}, us.length = vs.length → (toursL k vs us).length = vs.length
 | _, [], [], _ => rfl
 | _, [], _ :: _, h => by simp at h
 | _, _ :: _, [], h => by simp at h
 | k, v :: vs, u :: us, h => by
  have := toursL_length (k := k + 1) (vs := vs) (us := us) (by simpa using h)
  simp [toursL, this]
theorem toursL_at : ∀ {k : Nat} {vs : List Vh} {us : List Value} {pre rest : List (Nat × Vh × Value)} {y : Nat × Vh × Value}, toursL k vs us = pre ++ y :: rest → y.1 = k + pre.length ∧ vs[pre.length]? = some y.2.1 ∧ us[pre.length]? = some y.2.2
 | k, [], us, pre, rest, y, h => by simp [toursL] at h
 | k, _ :: _, [], pre, rest, y, h => by simp [toursL] at h
 | k, v :: vs, u :: us, [], rest, y, h => by
  simp [toursL] at h
  obtain ⟨rfl, -⟩ := h
  exact ⟨rfl, rfl, rfl⟩
 | k, v :: vs, u :: us, p :: pre, rest, y, h => by
  simp [toursL] at h
  have := toursL_at (k := k + 1) h.2
  refine ⟨by rw [this.1, List.length_cons]; omega, by simpa using this.2.1, by simpa using this.2.2⟩
def encT (y : Nat × Vh × Value) : Array Value := #[.int .i64 (y.1 : Int), .agg #[.int .i64 y.2.1.hx, .int .i64 y.2.1.hy, .int .i64 y.2.1.cp, .int .i64 y.2.1.st, .int .i64 y.2.1.en, y.2.2]]
theorem tours_any (xf xr : Option Addr) (Nf Cf Nr Cr : Nat) (w : World) :
 Calls Tryz.prog 40 #[.slice xf Nf Cf, .slice xr Nr Cr] w fun e w' =>
  e = .returned (.func (.func 59) #[] #[.pointer (some ⟨w.heap.size, 0, none⟩), .pointer (some ⟨w.heap.size + 1, 0, none⟩)]) ∧
  (w.alloc (.cells #[.slice xf Nf Cf] 35)).alloc (.cells #[.slice xr Nr Cr] 36) = w' := by
 go_enter Tryz.func40, Tryz.ntmps40
 go_wp2
 go_ret
 exact ⟨rfl, rfl⟩
structure TourAt (B0 bf br : Nat) (vf vr : Value) (vs : List Vh) (us : List Value) (A : World) : Prop where
 hf : At A bf 35 #[vf]
 hr : At A br 36 #[vr]
 vhs : Vhs B0 A vf vs
 rws : RowB B0 A vr 1 (us.map fun u => [u])
set_option maxRecDepth 100000 in
set_option maxHeartbeats 4000000 in
theorem tours_runs (vs : List Vh) (us : List Value) (hu : us.length = vs.length) (hsl : ∀ u ∈ us, ∃ x n c, u = .slice x n c) (vf vr : Value) (bf br B0 B : Nat) (hB : B0 ≤ B) (good : Nat × Vh × Value → Bool) (I : List (Nat × Vh × Value) → World → Prop) (hI : ∀ p A, I p A → TourAt B0 bf br vf vr vs us A) :
 Runs2 Tryz.prog 59 #[] #[.pointer (some ⟨bf, 0, none⟩), .pointer (some ⟨br, 0, none⟩)] encT good (toursL 0 vs us) B I := by
 intro ll J W hWB h0 hJ hJI hY
 refine callsIn_of_wp Tryz.func59 rfl trivial ?_ rfl
 simp only [Tryz.ntmps59, List.size_toArray, List.length_cons, List.length_nil, Nat.reduceAdd, Nat.reduceSub, Array.replicate_succ, Array.replicate_zero, List.push_toArray, List.append_toArray, List.nil_append, List.cons_append]
 have hV0 := hI _ _ (hJI _ _ h0)
 obtain ⟨xf, Nf, cf, rfl, hNf0, hfc1, hfc2, -⟩ := Vhs.opened hV0.vhs
 obtain ⟨xr, cr, rfl, hrc1, hrc2, -⟩ := id hV0.rws
 unfold maxLen at hfc2 hrc2
 have f0 := hV0.hf.cell 0
 have hbf := hV0.hf.inside
 simp at f0
 have hWs : B ≤ W.heap.size := by omega
 obtain ⟨xs, hxs⟩ : ∃ xs, toursL 0 vs us = xs := ⟨_, rfl⟩
 have hlen : Hid (xs.length = Nf) := Lib.hid (by rw [← hxs, toursL_length hu, hNf0])
 have hat := Lib.hid (fun (pre rest : List (Nat × Vh × Value)) (y : Nat × Vh × Value) (h : xs = pre ++ y :: rest) => toursL_at (hxs.trans h))
 have hlr : (us.map fun u => [u]).length = Nf := by rw [List.length_map, hu, hNf0]
 rw [hxs] at hY ⊢
 rw [hlr] at hI hrc1
 have hY' := Lib.hid hY
 have hI' := Lib.hid hI
 clear hY hI hV0 hNf0 hxs hlr hu
 gi_wp2
 gi_loopw [8] (fun i wr => ∃ (pre : List (Nat × Vh × Value)) (k : Nat) (rest : List (Nat × Vh × Value)), i = .int .i64 k ∧ k ≤ Nf ∧ pre.length = k ∧ xs = pre ++ rest ∧ (∀ y ∈ pre, good y = true) ∧ J pre wr ∧ B ≤ wr.heap.size)
  (fun i _ => Nf - (intOf i).toNat)
 case atStart => exact ⟨[], 0, xs, rfl, Nat.zero_le _, rfl, rfl, (fun y hy => by cases hy), h0, hWs⟩
 case round =>
  obtain ⟨pre, k, rest, rfl, hk, hpk, hx, hg, hj, hs⟩ := hrel
  clear h0
  have hpk' := Lib.hid hpk
  have hx' := Lib.hid hx
  have hg' := Lib.hid hg
  by_cases hlt : k < Nf
  · obtain ⟨y, rest, rfl⟩ : ∃ y r, rest = y :: r := by
     cases rest with
     | nil =>
      exfalso
      have h1 := hlen.out
      rw [hx] at h1
      simp at h1
      omega
     | cons y r => exact ⟨y, r, rfl⟩
    obtain ⟨hy1, hy2, hy3⟩ := hat.out _ _ _ hx
    rw [hpk] at hy1 hy2 hy3
    clear hpk hx hg
    obtain ⟨yk, v, u⟩ := y
    simp only [Nat.zero_add] at hy1 hy2 hy3
    subst hy1
    obtain ⟨xu, Nu, cu, rfl⟩ := hsl u (List.mem_of_getElem? hy3)
    have hVk := hI'.out _ _ (hJI _ _ hj)
    obtain ⟨gv, ov, rfl, hgv, q0, q1, q2, q3, q4⟩ := Vhs.at hVk.vhs hy2
    have hjV := hJ.new hj (.cells #[.int .i64 v.hx, .int .i64 v.hy, .int .i64 v.cp, .int .i64 v.st, .int .i64 v.en] 32)
    have hVV := hI'.out _ _ (hJI _ _ hjV)
    obtain ⟨gr, orr, rfl, hgr, hcr⟩ := RowB.row hVV.rws (j := yk) (r := [.slice xu Nu cu]) (by rw [List.getElem?_map, hy3]; rfl)
    have r0 := hVV.hr.cell 0
    have u0 := hcr 0 _ rfl
    have hbr := hVV.hr.inside
    simp at r0 u0
    have hbr' := hVk.hr.inside
    have hss : B ≤ (wr.alloc (.cells #[.int .i64 v.hx, .int .i64 v.hy, .int .i64 v.cp, .int .i64 v.st, .int .i64 v.en] 32)).heap.size := by simp; omega
    have hkF : (yk : Int) < (Nf : Int) := by omega
    obtain ⟨q, hq⟩ : ∃ q, wr.heap.size = q := ⟨_, rfl⟩
    have hP := At.new_ wr 32 #[.int .i64 v.hx, .int .i64 v.hy, .int .i64 v.cp, .int .i64 v.st, .int .i64 v.en] hq.symm
    clear hVk hVV hy2 hy3 hcr
    gi_upto_region 3 with fail
    try rw [hq]
    generalize (wr.alloc (.cells #[.int .i64 v.hx, .int .i64 v.hy, .int .i64 v.cp, .int .i64 v.st, .int .i64 v.en] 32)) = w2 at *
    have p0 := hP.cell 0
    have p1 := hP.cell 1
    have p2 := hP.cell 2
    have p3 := hP.cell 3
    have p4 := hP.cell 4
    simp at p0 p1 p2 p3 p4
    have hpi := hP.inside
    clear hP hq
    have kp0 := cell_regrown p0
    have kp1 := cell_regrown p1
    have kp2 := cell_regrown p2
    have kp3 := cell_regrown p3
    have kp4 := cell_regrown p4
    have kr0 := cell_regrown r0
    have ku0 := cell_regrown u0
    refine Tail.wpIn_region_below_tail 8 (by kernel_rfl) (by kernel_rfl) (by kernel_rfl) ?_
    simp only [List.take_succ_cons, List.take_zero, List.drop_succ_cons, List.drop_zero]
    repeat (go_big_quiet_step (fail))
    refine wpQuiet_nil ?_
    intro _ hw'
    obtain ⟨⟨dq, osq⟩, hw''⟩ := hw'
    subst hw''
    have hgr2 := below_regrown w2 dq osq
    have hjq := Load.Old.below hJ hjV hgr2
    have hsq : B ≤ (grow (redrawn w2 dq) osq).heap.size := Nat.le_trans hss hgr2.size
    clear hgr2 kp0 kp1 kp2 kp3 kp4 kr0 ku0 p0 p1 p2 p3 p4 r0 u0 hjV hj hbr hpi hss
    generalize grow (redrawn w2 dq) osq = w3 at *
    obtain ⟨fn, tmps, assign, body, hyy, hR⟩ := hY'.out 1 pre (yk, v, .slice xu Nu cu) w3 ⟨rest, hx'.out⟩ hjq hg'.out hsq
    dsimp only [encT] at hyy
    clear hjq q0 q1 q2 q3 q4
    gi_wp2_with fail
    refine hR.mono ?_
    clear hR hyy
    rintro e w4 ⟨rfl, hj4, hk4⟩
    have hs4 : B ≤ w4.heap.size := Nat.le_trans hsq hk4
    clear hk4
    cases hgood : good (yk, v, .slice xu Nu cu)
    · gi_wp2
      refine bodyPost_ret (results_none rfl _ _ _) rfl ?_
      refine ⟨⟨_, rfl⟩, ?_⟩
      rw [hx'.out, upTo_append hg'.out, upTo_bad hgood]
      exact hj4
    · have hgg := Lib.hid (good_snoc hg'.out hgood)
      clear hgood
      gi_wp2
      go_roundw
      case rel => exact ⟨pre ++ [(yk, v, .slice xu Nu cu)], yk + 1, rest, by go_num, hlt, by simp [hpk'.out], by rw [hx'.out]; simp, hgg.out, hj4, hs4⟩
      case measure => simp [intOf]; omega
  · obtain rfl : k = Nf := by omega
    have hr0 : rest = [] := by
     have h1 := hlen.out
     rw [hx'.out] at h1
     simp at h1
     exact List.eq_nil_of_length_eq_zero (by have := hpk'.out; omega)
    subst hr0
    clear hpk hx
    gi_wp2
    go_end0
    refine ⟨⟨_, rfl⟩, ?_⟩
    rw [hx'.out, List.append_nil, upTo_all hg'.out]
    exact hj
theorem places_any (n : Int) (w : World) :
 Calls Tryz.prog 42 #[.int .i64 n] w fun e w' => e = .returned (.func (.func 61) #[] #[.pointer (some ⟨w.heap.size, 0, none⟩)]) ∧ w.alloc (.cells #[.int .i64 n] 3) = w' := by
 go_enter Tryz.func42, Tryz.ntmps42
 go_wp2
 go_ret
 exact ⟨rfl, rfl⟩
set_option maxRecDepth 100000 in
set_option maxHeartbeats 4000000 in
theorem places_runs (N : Nat) (hN : N ≤ 1000) (bn B : Nat) (good : Int × Int → Bool) (I : List (Int × Int) → World → Prop) (hI : ∀ p A, I p A → At A bn 3 #[.int .i64 N]) :
 Runs2 Tryz.prog 61 #[] #[.pointer (some ⟨bn, 0, none⟩)] Ins.encP good (fromL N 0) B I := by
 intro ll J W hWB h0 hJ hJI hY
 refine callsIn_of_wp Tryz.func61 rfl trivial ?_ rfl
 simp only [Tryz.ntmps61, List.size_toArray, List.length_cons, List.length_nil, Nat.reduceAdd, Nat.reduceSub, Array.replicate_succ, Array.replicate_zero, List.push_toArray, List.append_toArray, List.nil_append, List.cons_append]
 have hA0 := hI _ _ (hJI _ _ h0)
 have n0 := hA0.cell 0
 have hbn := hA0.inside
 simp at n0
 have hWs : B ≤ W.heap.size := by omega
 have hI' := Lib.hid hI
 have hY' := Lib.hid hY
 clear hI hY hA0
 obtain ⟨xs, hxs⟩ : ∃ xs, fromL N 0 = xs := ⟨_, rfl⟩
 have hxs' : Hid (xs = fromL N 0) := Lib.hid hxs.symm
 rw [hxs] at hY' ⊢
 clear hxs
 gi_wp2
 gi_loopw [7] (fun i wr => ∃ (pre : List (Int × Int)) (k : Nat), i = .int .i64 k ∧ k ≤ N + 1 ∧ Hid (xs = pre ++ fromL N k) ∧ Hid (∀ y ∈ pre, good y = true) ∧ J pre wr ∧ B ≤ wr.heap.size)
  (fun i _ => N + 1 - (intOf i).toNat)
 case atStart => exact ⟨[], 0, rfl, Nat.zero_le _, hxs', Lib.hid (fun y hy => by cases hy), h0, hWs⟩
 case round =>
  obtain ⟨pre, k, rfl, hk, hx, hg, hj, hs⟩ := hrel
  clear h0
  have hAr := hI'.out _ _ (hJI _ _ hj)
  have n0 := hAr.cell 0
  have hbr := hAr.inside
  simp at n0
  clear hAr
  by_cases hlt : k ≤ N
  · have hx2 : Hid (xs = pre ++ (rowL N k k ++ fromL N (k + 1))) := Lib.hid (by rw [hx.out, fromL_cons hlt])
    clear hx
    obtain ⟨wo, hwo⟩ : ∃ wo, wo = wr := ⟨_, rfl⟩
    subst hwo
    have hkNi : (k : Int) < (N : Int) + 1 := by omega
    gi_wp2
    gi_loopw [4] (fun j wr => ∃ (pre : List (Int × Int)) (m : Nat), j = .int .i64 m ∧ m ≤ N + 1 ∧ Hid (xs = pre ++ (rowL N k m ++ fromL N (k + 1))) ∧ Hid (∀ y ∈ pre, good y = true) ∧ J pre wr ∧ B ≤ wr.heap.size)
     (fun j _ => N + 1 - (intOf j).toNat)
    case atStart => exact ⟨pre, k, rfl, by omega, hx2, hg, hj, hs⟩
    case round =>
     clear hj hx2 hg hs n0 hbr pre
     obtain ⟨pre, m, rfl, hm, hx, hg, hj, hs⟩ := hrel
     have hAr := hI'.out _ _ (hJI _ _ hj)
     have n0 := hAr.cell 0
     have hbr := hAr.inside
     simp at n0
     clear hAr
     by_cases hlm : m ≤ N
     · have hx2 : Hid (xs = pre ++ (((k : Int), (m : Int)) :: (rowL N k (m + 1) ++ fromL N (k + 1)))) := Lib.hid (by rw [hx.out, rowL_cons hlm]; rfl)
       obtain ⟨fn, tmps, assign, body, hyy, hR⟩ := hY'.out 1 pre ((k : Int), (m : Int)) wr ⟨_, hx2.out⟩ hj hg.out hs
       dsimp only [Ins.encP] at hyy
       have hlmi : (m : Int) ≤ (N : Int) := by omega
       clear hx hj
       gi_wp2_with fail
       refine hR.mono ?_
       clear hR hyy
       rintro e w4 ⟨rfl, hj4, hk4⟩
       have hs4 : B ≤ w4.heap.size := Nat.le_trans hs hk4
       clear hk4
       cases hgood : good ((k : Int), (m : Int))
       · gi_wp2
         refine bodyPost_ret (results_none rfl _ _ _) rfl ?_
         refine ⟨⟨_, rfl⟩, ?_⟩
         rw [hx2.out, upTo_append hg.out, upTo_bad hgood]
         exact hj4
       · have hgg := Lib.hid (good_snoc hg.out hgood)
         clear hgood
         gi_wp2
         go_roundw
         case rel => exact ⟨pre ++ [((k : Int), (m : Int))], m + 1, by go_num, by omega, Lib.hid (by rw [hx2.out, List.append_assoc]; rfl), hgg, hj4, hs4⟩
         case measure => simp [intOf]; omega
     · obtain rfl : m = N + 1 := by omega
       have hx2 : Hid (xs = pre ++ fromL N (k + 1)) := Lib.hid (by rw [hx.out, rowL_nil (Nat.lt_succ_self _)]; rfl)
       clear hx
       gi_wp2
       go_roundw
       case rel => exact ⟨pre, k + 1, by go_num, by omega, hx2, hg, hj, hs⟩
       case measure => simp [intOf]; omega
  · obtain rfl : k = N + 1 := by omega
    have hx2 : Hid (xs = pre) := Lib.hid (by rw [hx.out, fromL_nil (Nat.lt_succ_self _), List.append_nil])
    clear hx
    gi_wp2
    go_end0
    refine ⟨⟨_, rfl⟩, ?_⟩
    rw [hx2.out, upTo_all hg.out]
    exact hj
end Go.Proofs.YteclpblfleakhaaGreatDoor.Price
namespace Go.Proofs.YteclpblfleakhaaGreatDoor.Feas
open Go.RowKit Go.Sort Go.Proofs.YteclpblfleakhaaGreatDoor.Mem Go.Proofs.YteclpblfleakhaaGreatDoor.Route Go.Proofs.YteclpblfleakhaaGreatDoor.When Go.Proofs.YteclpblfleakhaaGreatDoor.Load Go.Proofs.YteclpblfleakhaaGreatDoor.Float Go.Proofs.YteclpblfleakhaaGreatDoor.Tail Go.Proofs.YteclpblfleakhaaGreatDoor.Place
set_option linter.unusedVariables false
def ErrAt (w : World) (u : Value) (f : Int × Int × Int) : Prop :=
 (f.1 = 0 ∧ u = .nilIface) ∨ (f.1 ≠ 0 ∧ ∃ q, u = .iface 162 (.pointer (some ⟨q, 0, none⟩)) ∧ At w q 126 #[.int .i64 f.1, .int .i64 f.2.1, .int .i64 f.2.2])
theorem ErrAt.on {w w' : World} {u : Value} {f : Int × Int × Int} (h : ErrAt w u f) (hb : Below w.heap.size w w') : ErrAt w' u f := by
 rcases h with h | ⟨h, q, e, hq⟩
 · exact .inl h
 · exact .inr ⟨h, q, e, hq.keep hb hq.inside⟩
set_option maxRecDepth 100000 in
set_option maxHeartbeats 4000000 in
theorem Check_any (v : Vh) (vl vt : Value) (l : List (Int × Int)) (t : List Rq) (hl : l.length ≤ 1000000) (hnum : Nums l) (w : World) (hL : Row w.heap.size w vl l) (hT : Rqs w.heap.size w vt t) :
 Calls Tryz.prog 58 #[.agg #[.int .i64 v.hx, .int .i64 v.hy, .int .i64 v.cp, .int .i64 v.st, .int .i64 v.en], vl, vt] w fun e w' => (∃ u, e = .returned u ∧ ErrAt w' u (faultV v l t)) ∧ Below w.heap.size w w' := by
 obtain ⟨w0, hw0⟩ : ∃ w0, w.alloc (.cells #[.int .i64 v.hx, .int .i64 v.hy, .int .i64 v.cp, .int .i64 v.st, .int .i64 v.en] 32) = w0 := ⟨_, rfl⟩
 obtain ⟨q, hq⟩ : ∃ q, w.heap.size = q := ⟨_, rfl⟩
 have hV : At w0 q 32 #[.int .i64 v.hx, .int .i64 v.hy, .int .i64 v.cp, .int .i64 v.st, .int .i64 v.en] := by rw [← hw0]; exact At.new_ _ _ _ hq.symm
 have hb0 : Below w.heap.size w w0 := by rw [← hw0]; exact (Below.refl _ _).alloc (Nat.le_refl _) _
 have hlk := lookN v vl vt 78 earlyP pb_early l t hl hnum w0 (hL.on hb0) (hT.on hb0) (PassC.ofN (Window.enters Tryz.func78 (by kernel_rfl) rfl) (early_pace _ _ _))
 have hfv : Hid (faultV v l t = if (lookV v l t earlyP).1 = 0 then (0, 0, 0) else lookV v l t earlyP) := Lib.hid rfl
 generalize lookV v l t earlyP = F at *
 obtain ⟨C, p, i⟩ := F
 simp only at hlk
 have v0 := hV.cell 0
 have v1 := hV.cell 1
 have v2 := hV.cell 2
 have v3 := hV.cell 3
 have v4 := hV.cell 4
 simp at v0 v1 v2 v3 v4
 have hw0' := Lib.hid hw0
 have hq' := Lib.hid hq
 obtain ⟨xl, Nl, capl, rfl, -⟩ := hL.opened
 obtain ⟨xt, Nt, capt, rfl, -⟩ := hT.opened
 clear hl hnum hL hT hw0 hq hV
 go_enter Tryz.func58, Tryz.ntmps58
 go_upto_region 1 with fail
 simp only [hq'.out]
 rw [hw0'.out]
 go_wp2_with fail
 refine hlk.mono ?_
 clear hlk v0 v1 v2 v3 v4
 rintro e w1 ⟨rfl, hb1⟩
 have hB1 := hb0.trans (hb1.mono hb0.size)
 have hF := At.new w1 126 #[.int .i64 C, .int .i64 p, .int .i64 i]
 have hB2 := hB1.alloc hB1.size (.cells #[.int .i64 C, .int .i64 p, .int .i64 i] 126)
 clear hb0 hb1 hB1
 cases hc0 : (C == 0)
 · have hc1 : (C != 0) = true := by simpa using hc0
   have hw : Hid (faultV v l t = (C, p, i)) := Lib.hid (by rw [hfv.out, if_neg (by simpa using hc0)])
   have hne : Hid (C ≠ 0) := Lib.hid (by simpa using hc0)
   have hF' := Lib.hid hF
   clear hF
   go_wp2
   go_ret
   exact ⟨⟨_, rfl, .inr ⟨by rw [hw.out]; exact hne.out, _, rfl, by rw [hw.out]; exact hF'.out⟩⟩, hB2⟩
 · have hc1 : (C != 0) = false := by simpa using hc0
   have hw : Hid (faultV v l t = (0, 0, 0)) := Lib.hid (by rw [hfv.out, if_pos (by simpa using hc0)])
   clear hF
   go_wp2
   go_ret
   exact ⟨⟨_, rfl, .inl ⟨by rw [hw.out], rfl⟩⟩, hB2⟩
end Go.Proofs.YteclpblfleakhaaGreatDoor.Feas
namespace Go.Proofs.YteclpblfleakhaaGreatDoor.Price
open Go.RowKit Go.Sort Go.Shelf Go.Proofs.YteclpblfleakhaaGreatDoor.Mem Go.Proofs.YteclpblfleakhaaGreatDoor.Route Go.Proofs.YteclpblfleakhaaGreatDoor.When Go.Proofs.YteclpblfleakhaaGreatDoor.Load Go.Proofs.YteclpblfleakhaaGreatDoor.Feas Go.Proofs.YteclpblfleakhaaGreatDoor.Ins Go.Proofs.YteclpblfleakhaaGreatDoor.Cheap Go.Proofs.YteclpblfleakhaaGreatDoor.Plan
set_option linter.unusedVariables false
def SgP' (w : World) : Prop := w.cell? ⟨0, 0, none⟩ = some (.int .i64 (-1)) ∧ w.cell? ⟨0, 1, none⟩ = some (.int .i64 0) ∧ w.cell? ⟨0, 2, none⟩ = some (.int .i64 0) ∧ w.cell? ⟨0, 3, none⟩ = some (.int .i64 0)
theorem SgP'.pos {w : World} (h : SgP' w) : 0 < w.heap.size := by
 obtain ⟨h, _⟩ := h
 rcases Nat.lt_or_ge 0 w.heap.size with h0 | h0
 · exact h0
 · simp [World.cell?, Array.getElem?_eq_none h0] at h
theorem SgP'.keep {B : Nat} {w v : World} (h : SgP' w) (hb : Below B w v) (hB : 0 < B) : SgP' v := ⟨(hb.cell (p := ⟨0, 0, none⟩) hB).trans h.1, (hb.cell (p := ⟨0, 1, none⟩) hB).trans h.2.1, (hb.cell (p := ⟨0, 2, none⟩) hB).trans h.2.2.1, (hb.cell (p := ⟨0, 3, none⟩) hB).trans h.2.2.2⟩
theorem SgP'.on {w v : World} (h : SgP' w) (hb : Below w.heap.size w v) : SgP' v := h.keep hb h.pos
def bestB : Option (Int × Wy) → Int × Wy
 | none => (-1, ⟨0, 0, 0⟩)
 | some y => y
theorem eq_way4 (a b c d e f g h : Int) (w : World) : Sem.run Tryz.prog (Op.equalIn 10000 90 (Value.agg #[.int .i64 a, .int .i64 b, .int .i64 c, .int .i64 d]) (Value.agg #[.int .i64 e, .int .i64 f, .int .i64 g, .int .i64 h])) w = .ok (decide (a = e) && (decide (b = f) && (decide (c = g) && decide (d = h)))) w := by
 unfold Op.equalIn
 simp [go_sem]
 by_cases h1 : a = e <;> by_cases h2 : b = f <;> by_cases h3 : c = g <;> by_cases h4 : d = h <;> simp [h1, h2, h3, h4]
theorem ret_bool2 {a b : Bool} (h : a = b) : Ending.returned (.bool a) = .returned (.bool b) := by rw [h]
set_option maxHeartbeats 2000000 in
theorem less_any (q : Nat) (b0 b1 b2 b3 k i j n : Int) (w : World) (hsg : SgP' w) (hb : At w q 90 #[.int .i64 b0, .int .i64 b1, .int .i64 b2, .int .i64 b3]) :
 Calls Tryz.prog 39 #[.agg #[.int .i64 k, .int .i64 i, .int .i64 j, .int .i64 n], .pointer (some ⟨q, 0, none⟩)] w fun e w' =>
  e = .returned (.bool ((decide (b0 = -1) && (decide (b1 = 0) && (decide (b2 = 0) && decide (b3 = 0)))) || decide (n < b3))) ∧ Below w.heap.size w w' := by
 obtain ⟨g0, g1, g2, g3⟩ := hsg
 have hgp := SgP'.pos ⟨g0, g1, g2, g3⟩
 have c0 := hb.cell 0
 have c1 := hb.cell 1
 have c2 := hb.cell 2
 have c3 := hb.cell 3
 simp at c0 c1 c2 c3
 have hqi := hb.inside
 obtain ⟨q0, hq0⟩ : ∃ q0, w.heap.size = q0 := ⟨_, rfl⟩
 obtain ⟨w1, hw1⟩ : ∃ w1, w.alloc (.cells #[.int .i64 k, .int .i64 i, .int .i64 j, .int .i64 n] 90) = w1 := ⟨_, rfl⟩
 have hb1 : Below w.heap.size w w1 := by rw [← hw1]; exact (Below.refl _ _).alloc (Nat.le_refl _) _
 have hY : At w1 q0 90 #[.int .i64 k, .int .i64 i, .int .i64 j, .int .i64 n] := by rw [← hw1]; exact At.new_ _ _ _ hq0.symm
 have y3 := hY.cell 3
 simp at y3
 have c0 := (hb1.cell (p := ⟨q, 0, none⟩) hqi).trans c0
 have c1 := (hb1.cell (p := ⟨q, 1, none⟩) hqi).trans c1
 have c2 := (hb1.cell (p := ⟨q, 2, none⟩) hqi).trans c2
 have c3 := (hb1.cell (p := ⟨q, 3, none⟩) hqi).trans c3
 have g0 := (hb1.cell (p := ⟨0, 0, none⟩) hgp).trans g0
 have g1 := (hb1.cell (p := ⟨0, 1, none⟩) hgp).trans g1
 have g2 := (hb1.cell (p := ⟨0, 2, none⟩) hgp).trans g2
 have g3 := (hb1.cell (p := ⟨0, 3, none⟩) hgp).trans g3
 have heq := eq_way4
 have hw1' := Lib.hid hw1
 have hq0' := Lib.hid hq0
 have hb1' := Lib.hid hb1
 have hqi0 := hY.inside
 clear hb hb1 hY hw1 hq0
 obtain ⟨B, hB⟩ : ∃ B, (decide (b0 = -1) && (decide (b1 = 0) && (decide (b2 = 0) && decide (b3 = 0)))) = B := ⟨_, rfl⟩
 rw [hB]
 go_enter Tryz.func39, Tryz.ntmps39
 go_upto_region 1 with fail
 try simp only [hq0'.out]
 rw [hw1'.out]
 cases B
 · by_cases hn : n < b3
   · have hd := Lib.hid (show true = (false || decide (n < b3)) by simp [hn])
     go_wp2
     go_ret
     exact ⟨ret_bool2 hd.out, hb1'.out⟩
   · have hd := Lib.hid (show false = (false || decide (n < b3)) by simp [hn])
     go_wp2
     go_ret
     exact ⟨ret_bool2 hd.out, hb1'.out⟩
 · have hd := Lib.hid (show true = (true || decide (n < b3)) by simp)
   go_wp2
   go_ret
   exact ⟨ret_bool2 hd.out, hb1'.out⟩
set_option maxRecDepth 100000 in
set_option maxHeartbeats 2000000 in
theorem end_any (v : Vh) (u vt : Value) (l : List (Int × Int)) (t : List Rq) (hl : l.length ≤ 1000000) (hnum : Nums l) (w : World) (hL : Row w.heap.size w u l) (hT : Rqs w.heap.size w vt t) :
 Calls Tryz.prog 41 #[.agg #[.int .i64 v.hx, .int .i64 v.hy, .int .i64 v.cp, .int .i64 v.st, .int .i64 v.en, u], vt] w fun e w' => e = .returned (.int .i64 (homeT v l t)) ∧ Below w.heap.size w w' := by
 obtain ⟨xu, Nu, cu, rfl, -⟩ := hL.opened
 obtain ⟨xt, Nt, ct, rfl, -⟩ := hT.opened
 obtain ⟨q, hq⟩ : ∃ q, w.heap.size = q := ⟨_, rfl⟩
 obtain ⟨w1, hw1⟩ : ∃ w1, w.alloc (.cells #[.int .i64 v.hx, .int .i64 v.hy, .int .i64 v.cp, .int .i64 v.st, .int .i64 v.en, .slice xu Nu cu] 111) = w1 := ⟨_, rfl⟩
 have hb1 : Below w.heap.size w w1 := by rw [← hw1]; exact (Below.refl _ _).alloc (Nat.le_refl _) _
 have hY : At w1 q 111 #[.int .i64 v.hx, .int .i64 v.hy, .int .i64 v.cp, .int .i64 v.st, .int .i64 v.en, .slice xu Nu cu] := by rw [← hw1]; exact At.new_ _ _ _ hq.symm
 have hTm := Times_any v _ _ l t hl hnum w1 (hL.on hb1) (hT.on hb1)
 have y0 := hY.cell 0
 have y1 := hY.cell 1
 have y2 := hY.cell 2
 have y3 := hY.cell 3
 have y4 := hY.cell 4
 have y5 := hY.cell 5
 simp at y0 y1 y2 y3 y4 y5
 have hyi := hY.inside
 have hw1' := Lib.hid hw1
 have hq' := Lib.hid hq
 have hb1' := Lib.hid hb1
 obtain ⟨H, hH⟩ : ∃ H, homeT v l t = H := ⟨_, rfl⟩
 obtain ⟨E, hE⟩ : ∃ E, errT v l t = E := ⟨_, rfl⟩
 rw [hH, hE] at hTm
 rw [hH]
 clear hY hw1 hq hb1 hH hE hL hT
 go_enter Tryz.func41, Tryz.ntmps41
 go_upto_region 1 with fail
 try simp only [hq'.out]
 rw [hw1'.out]
 go_wp2_with fail
 refine hTm.mono ?_
 clear hTm y0 y1 y2 y3 y4 y5
 rintro e w2 ⟨⟨u2, rfl, hu2⟩, hb2⟩
 obtain ⟨x2, N2, c2, rfl, -⟩ := hu2.opened
 have hB2 := Lib.hid (hb1'.out.trans (hb2.mono hb1'.out.size))
 clear hu2 hb2
 go_wp2
 go_ret
 exact ⟨rfl, hB2.out⟩
theorem check_none {w : World} {u : Value} {f : Int × Int × Int} (h : Feas.ErrAt w u f) (hf : f.1 = 0) : u = .nilIface := by
 rcases h with ⟨-, e⟩ | ⟨h, -⟩
 · exact e
 · exact absurd hf h
theorem check_not {w : World} {u : Value} {f : Int × Int × Int} (h : Feas.ErrAt w u f) (hf : ¬ f.1 = 0) : ∃ q, u = .iface 162 (.pointer (some ⟨q, 0, none⟩)) := by
 rcases h with ⟨h, -⟩ | ⟨-, q, e, -⟩
 · exact absurd h hf
 · exact ⟨q, e⟩
theorem ret_with {a b : Int} {c d : Bool} (h : a = b) (h2 : c = d) : Ending.returned (.tuple #[.int .i64 a, .bool c]) = .returned (.tuple #[.int .i64 b, .bool d]) := by rw [h, h2]
def withB (v : Vh) (l : List (Int × Int)) (t : List Rq) (r i j : Int) : Bool := mayW l r i j && okF v (moreL l r i j) t
def withN (v : Vh) (l : List (Int × Int)) (t : List Rq) (r i j : Int) : Int := if withB v l t r i j = true then homeT v (moreL l r i j) t else 0
set_option maxRecDepth 100000 in
set_option maxHeartbeats 4000000 in
theorem with_any (v : Vh) (u vt : Value) (l : List (Int × Int)) (t : List Rq) (r i j : Int) (hl : l.length ≤ 100) (hnum : Nums l) (hr : I64 r) (w : World) (hL : Row w.heap.size w u l) (hT : Rqs w.heap.size w vt t) :
 Calls Tryz.prog 43 #[.agg #[.int .i64 v.hx, .int .i64 v.hy, .int .i64 v.cp, .int .i64 v.st, .int .i64 v.en, u], vt, .int .i64 r, .int .i64 i, .int .i64 j] w fun e w' => e = .returned (.tuple #[.int .i64 (withN v l t r i j), .bool (withB v l t r i j)]) ∧ Below w.heap.size w w' := by
 obtain ⟨xu, Nu, cu, rfl, -⟩ := hL.opened
 have hT0 := Lib.hid hT
 obtain ⟨xt, Nt, ct, rfl, -⟩ := hT.opened
 obtain ⟨q, hq⟩ : ∃ q, w.heap.size = q := ⟨_, rfl⟩
 obtain ⟨w1, hw1⟩ : ∃ w1, w.alloc (.cells #[.int .i64 v.hx, .int .i64 v.hy, .int .i64 v.cp, .int .i64 v.st, .int .i64 v.en, .slice xu Nu cu] 111) = w1 := ⟨_, rfl⟩
 have hb1 : Below w.heap.size w w1 := by rw [← hw1]; exact (Below.refl _ _).alloc (Nat.le_refl _) _
 have hY : At w1 q 111 #[.int .i64 v.hx, .int .i64 v.hy, .int .i64 v.cp, .int .i64 v.st, .int .i64 v.en, .slice xu Nu cu] := by rw [← hw1]; exact At.new_ _ _ _ hq.symm
 have hW := With_any _ l r i j (by omega) w1 (hL.on hb1)
 have y5 := hY.cell 5
 simp at y5
 have hyi := hY.inside
 have hY' := Lib.hid hY
 have hw1' := Lib.hid hw1
 have hq' := Lib.hid hq
 have hb1' := Lib.hid hb1
 obtain ⟨m, hm⟩ : ∃ m, mayW l r i j = m := ⟨_, rfl⟩
 rw [hm] at hW
 have hm' := Lib.hid hm
 have hnum' := Lib.hid hnum
 clear hY hw1 hq hb1 hm hL hT hnum
 go_enter Tryz.func43, Tryz.ntmps43
 go_upto_region 1 with fail
 try simp only [hq'.out]
 rw [hw1'.out]
 go_wp2_with fail
 refine hW.mono ?_
 clear hW y5
 rintro e w2 ⟨⟨u2, rfl, hu2, -⟩, hb2⟩
 have hB2 := Lib.hid (hb1'.out.trans (hb2.mono hb1'.out.size))
 have hY2 := hY'.out.keep hb2 (by omega)
 have y0 := hY2.cell 0
 have y1 := hY2.cell 1
 have y2 := hY2.cell 2
 have y3 := hY2.cell 3
 have y4 := hY2.cell 4
 simp at y0 y1 y2 y3 y4
 have hyi2 := hY2.inside
 have hY2' := Lib.hid hY2
 obtain ⟨x2, N2, c2, rfl, -⟩ := hu2.opened
 have hT2 := hT0.out.on hB2.out
 cases m
 · have hno := Lib.hid (show withB v l t r i j = false by unfold withB; rw [hm'.out]; rfl)
   have hn0 := Lib.hid (show withN v l t r i j = 0 by unfold withN; rw [hno.out]; rfl)
   clear hu2 hb2 hY2 y0 y1 y2 y3 y4 hT2
   go_wp2
   refine bodyPost_ret (v := .tuple #[.int .i64 0, .bool false]) (by simp [results, Tryz.results43, go_sem]) rfl ?_
   exact ⟨ret_with hn0.out.symm hno.out.symm, hB2.out⟩
 · have hml := mayW_iff.1 hm'.out
   have hwl : (withV l r i j).length ≤ 1000000 := by
    rw [withV_more hm'.out, moreL_length hm'.out]
    omega
   have hwn : Nums (withV l r i j) := by
    rw [withV_more hm'.out]
    exact moreL_nums hnum'.out hr
   have hC := Check_any v _ _ (withV l r i j) t hwl hwn w2 hu2 hT2
   have hu2' := Lib.hid hu2
   have hwl' := Lib.hid hwl
   have hwn' := Lib.hid hwn
   clear hu2 hb2 hY2 hT2 hml hwl hwn
   go_wp2_with fail
   refine hC.mono ?_
   clear hC
   rintro e w3 ⟨⟨u3, rfl, hu3⟩, hb3⟩
   have hB3 := Lib.hid (hB2.out.trans (hb3.mono hB2.out.size))
   have hY3 := hY2'.out.keep hb3 hyi2
   have hu23 := hu2'.out.on hb3
   have hT3 := hT0.out.on hB3.out
   rw [withV_more hm'.out] at hu3
   by_cases hf : (faultV v (moreL l r i j) t).1 = 0
   · obtain rfl := check_none hu3 hf
     have hyes := Lib.hid (show withB v l t r i j = true by unfold withB okF; rw [hm'.out, hf]; rfl)
     have hn0 := Lib.hid (show withN v l t r i j = homeT v (withV l r i j) t by unfold withN; rw [if_pos hyes.out, withV_more hm'.out])
     have hE := end_any v _ _ (withV l r i j) t hwl'.out hwn'.out w3 hu23 hT3
     have z0 := hY3.cell 0
     have z1 := hY3.cell 1
     have z2 := hY3.cell 2
     have z3 := hY3.cell 3
     have z4 := hY3.cell 4
     simp at z0 z1 z2 z3 z4
     have hyi3 := hY3.inside
     clear hu3 hb3 hY3 hu23 hT3 y0 y1 y2 y3 y4 hf
     go_wp2_with fail
     refine hE.mono ?_
     clear hE
     rintro e w4 ⟨rfl, hb4⟩
     have hB4 := Lib.hid (hB3.out.trans (hb4.mono hB3.out.size))
     clear hb4 z0 z1 z2 z3 z4
     go_wp2
     refine bodyPost_ret (v := .tuple #[.int .i64 (homeT v (withV l r i j) t), .bool true]) (by simp [results, Tryz.results43, go_sem]) rfl ?_
     exact ⟨ret_with hn0.out.symm hyes.out.symm, hB4.out⟩
   · obtain ⟨q3, rfl⟩ := check_not hu3 hf
     have hno := Lib.hid (show withB v l t r i j = false by unfold withB okF; rw [hm'.out, decide_eq_false hf]; rfl)
     have hn0 := Lib.hid (show withN v l t r i j = 0 by unfold withN; rw [hno.out]; rfl)
     clear hu3 hb3 hY3 hu23 hT3 y0 y1 y2 y3 y4 hf
     go_wp2
     refine bodyPost_ret (v := .tuple #[.int .i64 0, .bool false]) (by simp [results, Tryz.results43, go_sem]) rfl ?_
     exact ⟨ret_with hn0.out.symm hno.out.symm, hB3.out⟩
end Go.Proofs.YteclpblfleakhaaGreatDoor.Price

import Derived.Test.YteclpblfleakhaaDoorPkSlackPushMath

namespace Go.Proofs.YteclpblfleakhaaDoor.Ins
open Go.RowKit Go.Proofs.YteclpblfleakhaaDoor.Mem Go.Proofs.YteclpblfleakhaaDoor.Route Go.Proofs.YteclpblfleakhaaDoor.When Go.Proofs.YteclpblfleakhaaDoor.Load
set_option linter.unusedVariables false
theorem ret_w {u u2 : Value} {a b c d : Int} (h0 : u = u2) (h : a = b) (h2 : c = d) : Ending.returned (.tuple #[u, .int .i64 a, .int .i64 c]) = .returned (.tuple #[u2, .int .i64 b, .int .i64 d]) := by rw [h0, h, h2]
def WithOk (W : World) (u : Value) (v : Vh) (l : List (Int × Int)) (t : List Rq) (r i j : Int) : Prop :=
 if withE v l t r i j = 0 then Row W.heap.size W u (moreL l r i j) else u = .slice none 0 0
def endW (v : Vh) (l : List (Int × Int)) (t : List Rq) (r i j : Int) : Int := if withE v l t r i j = 0 then homeT v l t else 0
theorem WithOk.no {W : World} {v : Vh} {l : List (Int × Int)} {t : List Rq} {r i j : Int} (h : withE v l t r i j ≠ 0) : WithOk W (.slice none 0 0) v l t r i j := by unfold WithOk; rw [if_neg h]
theorem WithOk.yes {W : World} {u : Value} {v : Vh} {l : List (Int × Int)} {t : List Rq} {r i j : Int} (h : withE v l t r i j = 0) (hr : Row W.heap.size W u (moreL l r i j)) : WithOk W u v l t r i j := by unfold WithOk; rw [if_pos h]; exact hr
theorem endW_no {v : Vh} {l : List (Int × Int)} {t : List Rq} {r i j : Int} (h : withE v l t r i j ≠ 0) : endW v l t r i j = 0 := by unfold endW; rw [if_neg h]
theorem endW_yes {v : Vh} {l : List (Int × Int)} {t : List Rq} {r i j : Int} (h : withE v l t r i j = 0) : endW v l t r i j = homeT v l t := by unfold endW; rw [if_pos h]
set_option maxRecDepth 100000 in
set_option maxHeartbeats 4000000 in
theorem with_any (v : Vh) (vl vt : Value) (l : List (Int × Int)) (t : List Rq) (hl : l.length ≤ 1000000) (hnum : Nums l) (r i j : Int) (w : World) (hL : Row w.heap.size w vl l) (hT : Rqs w.heap.size w vt t) :
 Calls Tryd.prog 83 #[.agg #[.int .i64 v.hx, .int .i64 v.hy, .int .i64 v.cp, .int .i64 v.st, .int .i64 v.en], vl, vt, .int .i64 r, .int .i64 i, .int .i64 j] w fun e w' =>
  (∃ u, e = .returned (.tuple #[u, .int .i64 (endW v l t r i j), .int .i64 (withE v l t r i j)]) ∧ WithOk w' u v l t r i j) ∧ Below w.heap.size w w' := by
 obtain ⟨w0, hw0⟩ : ∃ w0, (w.alloc (.cells #[.int .i64 v.hx, .int .i64 v.hy, .int .i64 v.cp, .int .i64 v.st, .int .i64 v.en] 47)).alloc (.cells #[.int .i64 r] 3) = w0 := ⟨_, rfl⟩
 obtain ⟨q, hq⟩ : ∃ q, w.heap.size = q := ⟨_, rfl⟩
 have hB0 : Below q w w0 := by rw [← hw0]; exact ((Below.refl _ _).alloc (by omega) _).alloc (by simp; omega) _
 have hP : At w0 q 47 #[.int .i64 v.hx, .int .i64 v.hy, .int .i64 v.cp, .int .i64 v.st, .int .i64 v.en] := by rw [← hw0]; exact (At.new_ _ _ _ hq.symm).alloc _
 have hR : At w0 (q + 1) 3 #[.int .i64 r] := by rw [← hw0]; exact At.new_ _ _ _ (by simp [hq])
 rw [hq] at hL hT
 have hs0 : q + 1 < w0.heap.size := hR.inside
 have hrc := hR.cell 0
 simp at hrc
 have hHas := Has_any (q + 1) r vl l hl w0 ((hL.keep hB0 (Nat.le_refl _)).more (by omega)) hrc hs0
 obtain ⟨xl, Nl, capl, rfl, hNl, hl0, hlc1, hlc2⟩ := hL.opened
 obtain ⟨xt, Nt, capt, rfl, hNt0, htc1, htc2, ht0⟩ := hT.opened
 have hNt := Lib.hid hNt0
 unfold maxLen at hlc2 htc2
 have hL' := Lib.hid hL
 have hT' := Lib.hid hT
 have hl' := Lib.hid hl
 have hnum' := Lib.hid hnum
 have hP' := Lib.hid hP
 have hR' := Lib.hid hR
 have hB0' := Lib.hid hB0
 clear hL hT hNt0 ht0 hl0 hl hnum hP hR hB0
 by_cases h1 : r < 0
 · have he := Lib.hid (withE_req (v := v) (l := l) (t := t) (r := r) (i := i) (j := j) (by simp [inT]; omega))
   clear hHas
   go_enter Tryd.func83, Tryd.ntmps83
   go_wp2
   refine bodyPost_ret (v := .tuple #[.slice none 0 0, .int .i64 0, .int .i64 8]) (by simp [results, Tryd.results83, go_sem]) rfl ?_
   try simp only [hq]
   exact ⟨⟨_, ret_w rfl (endW_no (by rw [he.out]; omega)).symm he.out.symm, WithOk.no (by rw [he.out]; omega)⟩, by first | exact hB0'.out | (rw [hq]; exact hB0'.out)⟩
 by_cases h2 : (Nt : Int) ≤ r
 · have he := Lib.hid (withE_req (v := v) (l := l) (t := t) (r := r) (i := i) (j := j) (by have := hNt.out; simp [inT]; omega))
   clear hHas
   go_enter Tryd.func83, Tryd.ntmps83
   go_wp2
   refine bodyPost_ret (v := .tuple #[.slice none 0 0, .int .i64 0, .int .i64 8]) (by simp [results, Tryd.results83, go_sem]) rfl ?_
   try simp only [hq, hw0]
   exact ⟨⟨_, ret_w rfl (endW_no (by rw [he.out]; omega)).symm he.out.symm, WithOk.no (by rw [he.out]; omega)⟩, by first | exact hB0'.out | (rw [hq]; exact hB0'.out)⟩
 have hin : Hid (inT t r = true) := Lib.hid (inT_iff.2 ⟨by omega, by rw [hNt.out]; omega⟩)
 go_enter Tryd.func83, Tryd.ntmps83
 go_wp2_with fail
 try simp only [hq, hw0]
 refine hHas.mono ?_
 clear hHas
 rintro e w1 ⟨rfl, hb1⟩
 have hB1 := hB0'.out.trans (hb1.mono (by omega : q ≤ w0.heap.size))
 have hP1 := Lib.hid (hP'.out.keep hb1 (by omega))
 have hR1 := Lib.hid (hR'.out.keep hb1 (by omega))
 have hs1 : q + 1 < w1.heap.size := hR1.out.inside
 have hB1' := Lib.hid hB1
 clear hb1 hB1 hrc hs0
 cases hno : noR r l
 · have he := Lib.hid (withE_req (v := v) (l := l) (t := t) (r := r) (i := i) (j := j) (by rw [hno, Bool.and_false]))
   clear hno
   go_wp2
   refine bodyPost_ret (v := .tuple #[.slice none 0 0, .int .i64 0, .int .i64 8]) (by simp [results, Tryd.results83, go_sem]) rfl ?_
   exact ⟨⟨_, ret_w rfl (endW_no (by rw [he.out]; omega)).symm he.out.symm, WithOk.no (by rw [he.out]; omega)⟩, by first | exact hB1'.out | (rw [hq]; exact hB1'.out)⟩
 have hto : Hid ((inT t r && noR r l) = true) := Lib.hid (by rw [hin.out, hno]; rfl)
 clear hno
 have hTi := Times_all v _ _ l t hl'.out hnum'.out w1 ((hL'.out.keep hB1'.out (Nat.le_refl _)).more (by omega)) ((hT'.out.keep hB1'.out (Nat.le_refl _)).more (by omega))
 have p0 := hP1.out.cell 0
 have p1 := hP1.out.cell 1
 have p2 := hP1.out.cell 2
 have p3 := hP1.out.cell 3
 have p4 := hP1.out.cell 4
 simp at p0 p1 p2 p3 p4
 obtain ⟨E, hE⟩ : ∃ E, errT v l t = E := ⟨_, rfl⟩
 obtain ⟨H, hH⟩ : ∃ H, homeT v l t = H := ⟨_, rfl⟩
 rw [hE, hH] at hTi
 have hE' := Lib.hid hE
 have hH' := Lib.hid hH
 clear hE hH
 go_wp2_with fail
 refine hTi.mono ?_
 clear hTi
 rintro e w2 ⟨⟨u, rfl, hu, _⟩, hb2⟩
 have hB2' := Lib.hid (hB1'.out.trans (hb2.mono (by omega : q ≤ w1.heap.size)))
 have hR2 := Lib.hid (hR1.out.keep hb2 (by omega))
 have hs2 : q + 1 < w2.heap.size := hR2.out.inside
 clear hu hb2 p0 p1 p2 p3 p4
 cases he0 : (E == 0)
 · have he1 : (E != 0) = true := by simpa using he0
   have he := Lib.hid (withE_err (i := i) (j := j) hto.out (by rw [hE'.out]; simpa using he0))
   rw [hE'.out] at he
   have hne : Hid (E ≠ 0) := Lib.hid (by simpa using he0)
   go_wp2
   refine bodyPost_ret (v := .tuple #[.slice none 0 0, .int .i64 0, .int .i64 E]) (by simp [results, Tryd.results83, go_sem]) rfl ?_
   exact ⟨⟨_, ret_w rfl (endW_no (by rw [he.out]; exact hne.out)).symm he.out.symm, WithOk.no (by rw [he.out]; exact hne.out)⟩, by first | exact hB2'.out | (rw [hq]; exact hB2'.out)⟩
 have he1 : (E != 0) = false := by simpa using he0
 have hz : Hid (errT v l t = 0) := Lib.hid (by rw [hE'.out]; simpa using he0)
 by_cases h3 : 14 < Nl
 · have he := Lib.hid (withE_count (i := i) (j := j) hto.out hz.out (by rw [hNl.out]; exact h3))
   have hn16 := (times_ok (When.errT_zero hz.out).1).2.2.1
   rw [hNl.out] at hn16
   go_wp2
   refine bodyPost_ret (v := .tuple #[.slice none 0 0, .int .i64 0, .int .i64 11]) (by simp [results, Tryd.results83, go_sem]) rfl ?_
   exact ⟨⟨_, ret_w rfl (endW_no (by rw [he.out]; omega)).symm he.out.symm, WithOk.no (by rw [he.out]; omega)⟩, by first | exact hB2'.out | (rw [hq]; exact hB2'.out)⟩
 have h3' : Hid (¬ 14 < l.length) := Lib.hid (by rw [hNl.out]; exact h3)
 have hmw : Hid (mayW l r i j = placesB l.length i j) := Lib.hid (mayW_places hto.out h3'.out)
 have hWi := With_any _ l r i j hl'.out w2 ((hL'.out.keep hB2'.out (Nat.le_refl _)).more (by omega))
 rw [hmw.out] at hWi
 have hrc2 := hR2.out.cell 0
 simp at hrc2
 obtain ⟨b, hb⟩ : ∃ b, placesB l.length i j = b := ⟨_, rfl⟩
 rw [hb] at hWi
 have hb' := Lib.hid hb
 clear hb
 go_wp2_with fail
 refine hWi.mono ?_
 clear hWi
 rintro e w3 ⟨⟨u3, rfl, hu3, _⟩, hb3⟩
 have hB3' := Lib.hid (hB2'.out.trans (hb3.mono (by omega : q ≤ w2.heap.size)))
 have hu3' := Lib.hid hu3
 clear hu3 hb3 hrc2
 cases b
 · have he := Lib.hid (withE_place hto.out hz.out h3'.out hb'.out)
   go_wp2
   refine bodyPost_ret (v := .tuple #[.slice none 0 0, .int .i64 0, .int .i64 8]) (by simp [results, Tryd.results83, go_sem]) rfl ?_
   exact ⟨⟨_, ret_w rfl (endW_no (by rw [he.out]; omega)).symm he.out.symm, WithOk.no (by rw [he.out]; omega)⟩, by first | exact hB3'.out | (rw [hq]; exact hB3'.out)⟩
 · have he := Lib.hid (withE_ok hto.out hz.out h3'.out hb'.out)
   have hfin : Hid (WithOk w3 u3 v l t r i j) := Lib.hid (WithOk.yes he.out (by have := hu3'.out; rwa [withV_more (by rw [hmw.out]; exact hb'.out)] at this))
   obtain ⟨xu, Nu, cu, rfl, -⟩ := hu3'.out.opened
   go_wp2
   refine bodyPost_ret (v := .tuple #[.slice xu Nu cu, .int .i64 H, .int .i64 0]) (by simp [results, Tryd.results83, go_sem]) rfl ?_
   exact ⟨⟨_, ret_w rfl (by rw [endW_yes he.out, hH'.out]) he.out.symm, hfin.out⟩, by first | exact hB3'.out | (rw [hq]; exact hB3'.out)⟩
end Go.Proofs.YteclpblfleakhaaDoor.Ins
namespace Go.Proofs.YteclpblfleakhaaDoor.Sched
open Go.Proofs.YteclpblfleakhaaDoor.Tail (Fit least)
def okA (l : List Oper) : Bool := (List.range l.length).all fun j => ((l[j]?).map fun o => o.after.toList.all fun e => !Region.binds .any e || decide (e.on < j)).getD false
def OkA (l : List Oper) : Prop := ∀ j o, l[j]? = some o → ∀ e ∈ o.after, Region.binds .any e = true → e.on < j
theorem okA_of {l : List Oper} (h : okA l = true) : OkA l := by
 intro j o ho e he hb
 unfold okA at h
 rw [List.all_eq_true] at h
 have h2 := h j (List.mem_range.2 (List.getElem?_eq_some_iff.1 ho).1)
 rw [ho] at h2
 simp only [Option.map_some, Option.getD_some, List.all_eq_true, Bool.or_eq_true, Bool.not_eq_true', decide_eq_true_eq] at h2
 rcases h2 e (by simpa using he) with h6 | h6
 · rw [hb] at h6; cases h6
 · exact h6
variable {P : Program} {l : List Oper} {n : Nat} {Q : Exit → Act → World → Prop}
variable {Ext : World → World → Prop} {V : Nat → Value → World → Prop} {Z : (Nat → Bool) → (Nat → Value) → World → Prop} {w0 : World} {a0 : Act}
theorem schedA_any (hn : n = l.length) (hk : OkA l) (hseq : Region.seqB .any l.toArray (l.length - n) n (Array.replicate n true ++ Array.replicate (l.length - n) false) = true) (hA : apartB (l.take n) = true) (htr : ∀ {a b c}, Ext a b → Ext b c → Ext a c) (hV : ∀ {k v w w'}, V k v w → Ext w w' → V k v w') (hS : Steps P l n Q Ext V Z w0 a0 0 (l.take n))
 (hQ : ∀ ys w, Ext w0 w → (∀ i, i < n → V i (ys i) w) → (∃ done : Nat → Bool, (∀ i, i < n → done i = true) ∧ Z done ys w) → wpList P l.toArray Q (l.drop n) (fill 0 (l.take n) ys a0) w) :
 ∀ (fuel : Nat) (lh la : Array Bool) (ys : Nat → Value) (w : World), Ext w0 w → (∀ i, i < n → lh.getD i false = true → V i (ys i) w) → Z (fun i => lh.getD i false) ys w → Fit l n lh la → lh.toList.count false = fuel →
  wpAny P .any l.toArray Q (fuel + (l.length - n)) la (fill 0 (l.take n) ys a0) w
 | 0, lh, la, ys, w, hE, hF, hZ, hf, hc => by
  have hall' : ∀ j, j < n → lh[j]? = some true := by
   intro j hj
   have hlt : j < lh.size := by rw [hf.size]; exact hj
   rw [Array.getElem?_eq_getElem hlt]
   cases hb : lh[j]
   · exfalso
     have : false ∈ lh.toList := by rw [← hb]; simp
     have := List.count_pos_iff.2 this
     omega
   · rfl
  have hall : ∀ j, j < n → la[j]? = some true := fun j hj => by rw [hf.same j hj]; exact hall' j hj
  have hla : la = Array.replicate n true ++ Array.replicate (l.length - n) false := by
   apply Array.ext_getElem?
   intro j
   by_cases h1 : j < n
   · rw [hall j h1, Array.getElem?_append_left (by simpa using h1)]
     simp [h1]
   · rw [Array.getElem?_append_right (by simpa using (by omega : n ≤ j))]
     by_cases h2 : j < l.length
     · rw [hf.rest j (by omega) h2, Array.getElem?_replicate]
       simp
       omega
     · rw [Array.getElem?_eq_none (by rw [hf.sizeAll]; omega), Array.getElem?_eq_none (by simp; omega)]
  subst hla
  have hd : ∀ i, i < n → lh.getD i false = true := fun i hi => by rw [Array.getD_eq_getD_getElem?, hall' i hi]; rfl
  have := wpAny_of_seq (P := P) (md := .any) (ops := l.toArray) (Q' := Q) (l.drop n) n (Array.replicate n true ++ Array.replicate (l.length - n) false) (fill 0 (l.take n) ys a0) w (fun j => by simp [List.getElem?_drop]) (by simpa using hseq)
   (hQ ys w hE (fun i hi => hF i hi (hd i hi)) ⟨_, hd, hZ⟩)
  simpa using this
 | fuel + 1, lh, la, ys, w, hE, hF, hZ, hf, hc => by
  have hsome : ∃ j, j < n ∧ lh.getD j true = false := by
   have : false ∈ lh.toList := List.count_pos_iff.1 (by omega)
   obtain ⟨j, hj, hb⟩ := List.getElem_of_mem this
   have hj' : j < lh.size := by simpa using hj
   refine ⟨j, by rw [← hf.size]; exact hj', ?_⟩
   simp only [Array.getElem_toList] at hb
   simp [hj', hb]
  have hgd : ∀ j, j < n → la.getD j true = lh.getD j true := fun j hj => by
   have := hf.same j hj
   rw [Array.getD_eq_getD_getElem?, Array.getD_eq_getD_getElem?, this]
  have hgd' : ∀ j, j < n → la.getD j false = lh.getD j false := fun j hj => by
   have := hf.same j hj
   rw [Array.getD_eq_getD_getElem?, Array.getD_eq_getD_getElem?, this]
  have hboth : ∀ j, j < n → lh.getD j false = lh.getD j true := fun j hj => by
   have hlt : j < lh.size := by rw [hf.size]; exact hj
   simp [hlt]
  obtain ⟨j, hj, hpj, hmin⟩ := least (p := fun j => lh.getD j true) n hsome
  have hready : j ∈ Region.ready .any l.toArray la := by
   rw [mem_ready]
   obtain ⟨o, ho⟩ : ∃ o, l[j]? = some o := ⟨l[j]'(by omega), List.getElem?_eq_getElem (by omega)⟩
   refine ⟨by rw [hgd j hj]; exact hpj, o, by simpa using ho, fun e he hbb => ?_⟩
   have h1 := hk j o ho e he hbb
   rw [hgd' _ (by omega), hboth _ (by omega)]
   exact hmin _ h1
  have key : (Region.ready .any l.toArray la = [] → Q .normal (fill 0 (l.take n) ys a0) w) ∧ ∀ i ∈ Region.ready .any l.toArray la, wpOp P l.toArray Q i (wpAny P .any l.toArray Q (fuel + (l.length - n)) (la.setIfInBounds i true)) (fill 0 (l.take n) ys a0) w := by
   refine ⟨fun h0 => (by rw [h0] at hready; cases hready), fun i hi => ?_⟩
   rw [mem_ready] at hi
   obtain ⟨hi0, o, ho, hall⟩ := hi
   have ho' : l[i]? = some o := by simpa using ho
   have hin : i < n := by
    have := (List.getElem?_eq_some_iff.1 ho').1
    omega
   have hlti : i < lh.size := by rw [hf.size]; exact hin
   have hfi : lh.getD i false = false := by rw [hboth i hin, ← hgd i hin]; exact hi0
   have ho1 : (l.take n)[i]? = some o := by simp [hin, ho']
   have hst := hS.at ho1 ys (fun i => lh.getD i false) w hE (by simpa using hfi) hF (fun m hm => by
    rw [List.any_eq_true] at hm
    obtain ⟨e, he, hb⟩ := hm
    simp only [Bool.and_eq_true, beq_iff_eq] at hb
    have he' : e ∈ o.after := by simpa using he
    have h1 := hk i o ho' e he' hb.1
    have h2 := hall e he' hb.1
    rw [hgd' _ (by omega)] at h2
    show lh.getD m false = true
    rw [← hb.2]; exact h2) hZ
   simp only [Nat.zero_add] at hst
   refine wpOp_mono (fun a' w' hK => ?_) (wpOp_of_list ho hst)
   obtain ⟨v, rfl, hE', hv, hZ'⟩ := hK
   rw [fill_upd hA ho1, Nat.zero_add]
   have hset : ∀ m, (lh.setIfInBounds i true).getD m false = if m = i then true else lh.getD m false := by
    intro m
    rw [Array.getD_eq_getD_getElem?, Array.getElem?_setIfInBounds]
    by_cases hm : i = m
    · subst hm; simp [hlti]
    · rw [if_neg hm, if_neg (fun e => hm e.symm), Array.getD_eq_getD_getElem?]
   refine schedA_any hn hk hseq hA htr hV hS hQ fuel _ _ (upd ys i v) w' (htr hE hE') (fun m hm ht => ?_) ?_ (hf.set hin (fun o1 ho1 e he hb => by rw [ho'] at ho1; cases ho1; exact hall e he hb)) ?_
   · rw [hset] at ht
     by_cases hmi : m = i
     · subst hmi; simpa [upd] using hv
     · rw [if_neg hmi] at ht
       simp only [upd, if_neg hmi]
       exact hV (hF m hm ht) hE'
   · have : (fun m => (lh.setIfInBounds i true).getD m false) = mark (fun m => lh.getD m false) i := funext hset
     rw [this]; exact hZ'
   · have hlt : i < lh.toList.length := by simpa using hlti
     have hfalse : lh.toList[i] = false := by
      have h2 : lh.getD i true = false := by rw [← hgd i hin]; exact hi0
      simpa [hlti] using h2
     rw [Array.toList_setIfInBounds, List.count_set hlt, hfalse, hc]
     simp
  rw [show fuel + 1 + (l.length - n) = (fuel + (l.length - n)) + 1 by omega]
  exact key
theorem wp_region_schedA {id : Nat} {a : Act} {w : World} (n : Nat) (Ext : World → World → Prop) (V : Nat → Value → World → Prop) (Z : (Nat → Bool) → (Nat → Value) → World → Prop)
 (hn : n = l.length) (hm : P.follows .mixedOrders = true) (hT : okA l = true) (hseq : Region.seqB .any l.toArray (l.length - n) n (Array.replicate n true ++ Array.replicate (l.length - n) false) = true) (hA : apartB (l.take n) = true)
 (htr : ∀ {a b c}, Ext a b → Ext b c → Ext a c) (hV : ∀ {k v w w'}, V k v w → Ext w w' → V k v w') (h0 : Ext w { w with drawn := w.drawn + 1 }) (hZ : ∀ ys, Z (fun _ => false) ys { w with drawn := w.drawn + 1 })
 (hS : Steps P l n Q Ext V Z w a 0 (l.take n))
 (hQ : ∀ ys w', Ext w w' → (∀ i, i < n → V i (ys i) w') → (∃ done : Nat → Bool, (∀ i, i < n → done i = true) ∧ Z done ys w') → wpList P l.toArray Q (l.drop n) (fill 0 (l.take n) ys a) w') : (Code.region id l.toArray true).wp P Q a w := by
 have hk := okA_of hT
 refine wp_region_any hm ?_
 obtain ⟨ys, hy⟩ := fill_self (l.take n) 0 a
 have hd : ∀ i, (Array.replicate n false).getD i false = false := fun i => by rw [Array.getD_eq_getD_getElem?, Array.getElem?_replicate]; split <;> rfl
 have h2 := schedA_any (P := P) (Q := Q) (w0 := w) (Ext := Ext) (V := V) (Z := Z) (a0 := a) hn hk hseq hA htr hV hS hQ n (Array.replicate n false) (Array.replicate l.length false) ys { w with drawn := w.drawn + 1 } h0
  (fun i _ h => by rw [hd] at h; cases h) (by rw [show (fun i => (Array.replicate n false).getD i false) = fun _ => false from funext hd]; exact hZ ys)
  ⟨by simp, by simp, fun j hj => by rw [Array.getElem?_replicate, Array.getElem?_replicate, if_pos hj, if_pos (by omega)], fun j h1 h2 => by simp [h2], fun j o hj ht => by rw [Array.getElem?_replicate] at ht; split at ht <;> cases ht⟩ (by simp)
 rw [hy, show n + (l.length - n) = l.length by omega] at h2
 simpa using h2
end Go.Proofs.YteclpblfleakhaaDoor.Sched
namespace Go.Proofs.YteclpblfleakhaaDoor.Ins
open Go.RowKit Go.Sort Go.Proofs.YteclpblfleakhaaDoor.Mem Go.Proofs.YteclpblfleakhaaDoor.Route
set_option linter.unusedVariables false
theorem mark_ne {done : Nat → Bool} {k i : Nat} (h : i ≠ k) : Sched.mark done k i = done i := by simp [Sched.mark, h]
theorem mark_eq {done : Nat → Bool} {k : Nat} : Sched.mark done k k = true := by simp [Sched.mark]
theorem upd_ne {ys : Nat → Value} {k i : Nat} {v : Value} (h : i ≠ k) : Sched.upd ys k v i = ys i := by simp [Sched.upd, h]
theorem upd_eq {ys : Nat → Value} {k : Nat} {v : Value} : Sched.upd ys k v k = v := by simp [Sched.upd]
def Kp (B : Nat) (T : TypeId) (w w' : World) : Prop := Below B w w' ∧ ∀ (b : Nat) (cs : Array Value) (t : TypeId) (f : Nat × Nat), w.heap[b]? = some (.cells cs t f) → t ≠ T → w'.heap[b]? = some (.cells cs t f)
theorem Kp.trans {B : Nat} {T : TypeId} {a b c : World} (h : Kp B T a b) (k : Kp B T b c) : Kp B T a c := ⟨h.1.trans k.1, fun i cs t f hi ht => k.2 i cs t f (h.2 i cs t f hi ht) ht⟩
theorem Kp.new {B : Nat} {T : TypeId} {a b : World} (h : Below a.heap.size a b) (hB : B ≤ a.heap.size) : Kp B T a b :=
 ⟨h.mono hB, fun i cs t f hi _ => (h.block i (Array.getElem?_eq_some_iff.1 hi).1).trans hi⟩
theorem Kp.at_ {B : Nat} {T : TypeId} {a b : World} {g : Nat} {t : TypeId} {cs : Array Value} (h : Kp B T a b) (hA : At a g t cs) (ht : t ≠ T) : At b g t cs := h.2 g cs t _ hA ht
theorem Kp.owns {B base : Nat} {T : TypeId} {a b : World} {e : TypeId} {size n : Nat} {v : Value} {xs : List Value} (h : Kp B T a b) (ho : a.ownsRow base e size v n xs) (ht : e ≠ T) : b.ownsRow base e size v n xs := by
 obtain ⟨hl, h1 | ⟨g, cap, cur, rfl, hg1, hg, hr⟩⟩ := ho
 · exact ⟨hl, .inl h1⟩
 · exact ⟨hl, .inr ⟨g, cap, cur, rfl, hg1, h.2 g cur e _ hg ht, hr⟩⟩
theorem Kp.size {B : Nat} {T : TypeId} {a b : World} (h : Kp B T a b) : a.heap.size ≤ b.heap.size := h.1.size
theorem Kp.grown {B base n m : Nat} {T : TypeId} {a b : World} {v : Value} {xs : List Value} (ho : a.ownsRow base T m v n xs) (hb : B ≤ base) (hg : a.grownBy b v.ownBlock) (hB : B ≤ a.heap.size) : Kp B T a b := by
 refine ⟨(Below.refl _ _).grown hg hB (fun r e => by have := owns_row ho r e; omega), fun i cs t f hi ht => ?_⟩
 refine (hg.block i (Array.getElem?_eq_some_iff.1 hi).1 (fun e => ?_)).trans hi
 rcases ho.2 with ⟨h1, h0⟩ | ⟨k, cap, cur, h1, hk, hk2, _⟩
 · rw [h1] at e; cases e
 · rw [h1] at e
   simp only [Value.ownBlock, Option.some.injEq] at e
   subst e
   rw [hi] at hk2
   cases hk2
   exact ht rfl
inductive KnT (B : Nat) (T : TypeId) where
 | val (u : Value)
 | of (p : Value → World → Prop) (hp : ∀ {v w w'}, p v w → Kp B T w w' → p v w')
 | any
def KnT.holds {B : Nat} {T : TypeId} : KnT B T → Value → World → Prop
 | .val u, v, _ => v = u
 | .of p _, v, w => p v w
 | .any, _, _ => True
def VT {B : Nat} {T : TypeId} (ks : List (KnT B T)) (i : Nat) (v : Value) (w : World) : Prop := ∀ k, ks[i]? = some k → k.holds v w
section
variable {B : Nat} {T : TypeId} {ks : List (KnT B T)} {i : Nat} {v u : Value} {w w' : World} {p : Value → World → Prop} {hp : ∀ {v w w'}, p v w → Kp B T w w' → p v w'}
theorem VT.keep (h : VT ks i v w) (hb : Kp B T w w') : VT ks i v w' := fun k hk => by
 have h1 := h k hk
 cases k with
 | val u => exact h1
 | of p hp => exact hp h1 hb
 | any => trivial
theorem VT.val (h : ks[i]? = some (.val u)) (e : v = u) : VT ks i v w := fun k hk => by rw [h] at hk; cases hk; exact e
theorem VT.of (h : ks[i]? = some (.of p hp)) (e : p v w) : VT ks i v w := fun k hk => by rw [h] at hk; cases hk; exact e
theorem VT.any (h : ks[i]? = some .any) : VT ks i v w := fun k hk => by rw [h] at hk; cases hk; trivial
theorem VT.eq (hV : VT ks i v w) (h : ks[i]? = some (.val u)) : v = u := hV _ h
theorem VT.get (hV : VT ks i v w) (h : ks[i]? = some (.of p hp)) : p v w := hV _ h
end
structure ZA (a s base N m : Nat) (T : TypeId) (cs : Array Value) (xs zs : List Value) (U : Value) (done : Nat → Bool) (ys : Nat → Value) (W : World) : Prop where
 r : done s = false → W.ownsRow base T m U N xs
 n : done a = true → done s = false → ∃ g : Nat, ys a = .slice (some ⟨g, 0, none⟩) 1 1 ∧ base ≤ g ∧ At W g T cs
 s : done s = true → W.ownsRow base T m (ys s) (N + 1) zs
section
variable {a s base N m : Nat} {T : TypeId} {cs : Array Value} {xs zs : List Value} {U : Value} {done : Nat → Bool} {ys : Nat → Value} {W W' : World} {v : Value}
theorem ZA.start (h : W.ownsRow base T m U N xs) : ZA a s base N m T cs xs zs U (fun _ => false) ys W.drew := ⟨fun _ => owns_below h (Below.refl _ _).drew, fun h => (by cases h), fun h => (by cases h)⟩
theorem ZA.light {k : Nat} (h : ZA a s base N m T cs xs zs U done ys W) (ha : a ≠ k) (hs : s ≠ k) (hb : Below W.heap.size W W') : ZA a s base N m T cs xs zs U (Sched.mark done k) (Sched.upd ys k v) W' := by
 refine ⟨?_, ?_, ?_⟩
 · rw [mark_ne hs]; exact fun h1 => owns_below (h.r h1) hb
 · rw [mark_ne hs, mark_ne ha, upd_ne ha]
   intro h1 h2
   obtain ⟨g, e, hg, hA⟩ := h.n h1 h2
   exact ⟨g, e, hg, hA.keep hb hA.inside⟩
 · rw [mark_ne hs, upd_ne hs]; exact fun h1 => owns_below (h.s h1) hb
theorem ZA.lay {g : Nat} (h : ZA a s base N m T cs xs zs U done ys W) (has : a ≠ s) (hb : Below W.heap.size W W') (hg : base ≤ g) (hA : At W' g T cs) : ZA a s base N m T cs xs zs U (Sched.mark done a) (Sched.upd ys a (.slice (some ⟨g, 0, none⟩) 1 1)) W' := by
 refine ⟨?_, ?_, ?_⟩
 · rw [mark_ne (Ne.symm has)]; exact fun h1 => owns_below (h.r h1) hb
 · rw [upd_eq]; exact fun _ _ => ⟨g, rfl, hg, hA⟩
 · rw [mark_ne (Ne.symm has), upd_ne (Ne.symm has)]; exact fun h1 => owns_below (h.s h1) hb
theorem ZA.put (h : ZA a s base N m T cs xs zs U done ys W) (hn : W'.ownsRow base T m v (N + 1) zs) : ZA a s base N m T cs xs zs U (Sched.mark done s) (Sched.upd ys s v) W' := by
 refine ⟨?_, ?_, ?_⟩
 · rw [mark_eq]; exact fun h1 => by cases h1
 · rw [mark_eq]; exact fun _ h1 => by cases h1
 · rw [upd_eq]; exact fun _ => hn
end
end Go.Proofs.YteclpblfleakhaaDoor.Ins

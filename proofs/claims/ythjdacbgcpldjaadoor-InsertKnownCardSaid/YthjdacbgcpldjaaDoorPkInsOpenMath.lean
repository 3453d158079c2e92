import Derived.Test.YthjdacbgcpldjaaDoorPkInsRightMath
import Derived.Test.YthjdacbgcpldjaaDoorPkInsRight

/-
  Where no window makes anybody wait, a rise is the detour, and twice the service. No program is spoken of here.
-/
namespace Go.Proofs.YthjdacbgcpldjaaDoor.Ins
open Go.RowKit Go.Proofs.YthjdacbgcpldjaaDoor.Order Go.Proofs.YthjdacbgcpldjaaDoor.Place Go.Proofs.YthjdacbgcpldjaaDoor.Route Go.Proofs.YthjdacbgcpldjaaDoor.When Go.Proofs.YthjdacbgcpldjaaDoor.Load Go.Proofs.YthjdacbgcpldjaaDoor.Feas
set_option linter.unusedVariables false

def pickQ (q : Rq) (x y : Int) : Rq := ⟨q.fx, q.fy, q.tx, q.ty, x, y, q.de, q.dl, q.ld, q.sv⟩
def dropQ (q : Rq) (x y : Int) : Rq := ⟨q.fx, q.fy, q.tx, q.ty, q.pe, q.pl, x, y, q.ld, q.sv⟩
/-- A request with both windows wide open. -/
def openQ (q : Rq) : Rq := dropQ (pickQ q 0 4000) 0 4000
def openT (t : List Rq) : List Rq := t.map openQ
theorem openT_get {t : List Rq} {k : Nat} {q : Rq} (h : t[k]? = some q) : (openT t)[k]? = some (openQ q) := by simp [openT, h]
theorem openT_length (t : List Rq) : (openT t).length = t.length := by simp [openT]
theorem openQ_chk {q : Rq} (h : q.chk = 0) : (openQ q).chk = 0 := by
  unfold Rq.chk at *
  rw [Order.chk_iff, Place.mayB_iff, Place.mayB_iff, Window.okB_iff, Window.okB_iff] at h
  unfold openQ dropQ pickQ
  dsimp only
  rw [Order.chk_iff, Place.mayB_iff, Place.mayB_iff, Window.okB_iff]
  omega
theorem openV_chk {v : Vh} (h : v.dr) : Vh.chk ⟨v.hx, v.hy, 1000, v.st, 8000⟩ = 0 := by
  obtain ⟨h1, _, _, h2⟩ := h
  unfold Vh.nr at h2
  unfold Vh.chk at *
  rw [Order.veh_iff, Place.mayB_iff] at h1
  dsimp only
  rw [Order.veh_iff, Place.mayB_iff]
  omega

def Box (p : Int × Int) : Prop := (500 ≤ p.1 ∧ p.1 < 520) ∧ 500 ≤ p.2 ∧ p.2 < 520
theorem box_dist {a b : Int × Int} (ha : Box a) (hb : Box b) : 0 ≤ distV a b ∧ distV a b ≤ 38 := by
  obtain ⟨h1, h2, h3⟩ := ha
  obtain ⟨h4, h5, h6⟩ := hb
  have e1 : mayB a = true := (Place.mayB_iff ..).2 (by omega)
  have e2 : mayB b = true := (Place.mayB_iff ..).2 (by omega)
  unfold distV
  rw [e1, e2]
  simp only [Bool.and_self, if_true]
  unfold gap
  repeat' split
  all_goals omega
/-- A visit that may be at any time. -/
structure OpV (x : Vi) : Prop where
  we : x.we = 0
  wl : x.wl = 4000
  sv : 0 ≤ x.sv ∧ x.sv ≤ 3
  box : Box (spotV x)
theorem OpV.ok {x : Vi} (h : OpV x) : OkVi x := by
  have h1 := h.we
  have h2 := h.wl
  have h3 := h.sv
  unfold OkVi
  omega
def svS : List Vi → Int
  | [] => 0
  | x :: xs => x.sv + svS xs
theorem open_run : ∀ (xs : List Vi) (a : Sp), (∀ x ∈ xs, OpV x) → Box (a.px, a.py) → 0 ≤ a.now → a.now + 41 * xs.length ≤ 4000 →
    allB a xs = true ∧ (endA a xs).now = a.now + wayD (a.px, a.py) (xs.map spotV) + svS xs ∧ ((endA a xs).px, (endA a xs).py) = lastD (a.px, a.py) (xs.map spotV) ∧ (endA a xs).now ≤ a.now + 41 * xs.length ∧ Box ((endA a xs).px, (endA a xs).py)
  | [], a, _, hb, h0, _ => ⟨rfl, by simp [endA, wayD, svS], rfl, by simp [endA], hb⟩
  | x :: xs, a, hx, hb, h0, h1 => by
    have hX := hx x (List.mem_cons_self ..)
    have hd := box_dist hb hX.box
    have hda : arV a x = a.now + distV (a.px, a.py) (spotV x) := rfl
    have hwe := hX.we
    have hwl := hX.wl
    have hsv := hX.sv
    simp only [List.length_cons] at h1
    have hin : inB a x = true := by
      unfold inB
      rw [wait_ok hX.ok, decide_eq_true_eq]
      omega
    have hbe : beV a x = arV a x := by
      unfold beV
      rw [wait_yes (by unfold inB at hin; exact hin)]
      omega
    have hgo : goV a x = ⟨arV a x + x.sv, x.px, x.py⟩ := by unfold goV; rw [hbe]
    obtain ⟨i1, i2, i3, i4, i5⟩ := open_run xs (goV a x) (fun y hy => hx y (List.mem_cons_of_mem _ hy)) (by rw [hgo]; exact hX.box) (by rw [hgo]; show 0 ≤ arV a x + x.sv; omega) (by rw [hgo]; show arV a x + x.sv + _ ≤ _; omega)
    have e1 : endA a (x :: xs) = endA (goV a x) xs := rfl
    have e2 : allB a (x :: xs) = (inB a x && allB (goV a x) xs) := rfl
    have e3 : ((goV a x).px, (goV a x).py) = spotV x := by rw [hgo]; rfl
    have e4 : (goV a x).now = arV a x + x.sv := by rw [hgo]
    refine ⟨by rw [e2, hin, i1]; rfl, ?_, ?_, ?_, by rw [e1]; exact i5⟩
    · rw [e1, i2, e3, e4, List.map_cons, wayD, svS]
      omega
    · rw [e1, i3, e3]
      rfl
    · rw [e1]
      simp only [List.length_cons]
      omega

def svL (t : List Rq) (l : List (Int × Int)) : Int := svS (visL t l)
theorem svL_cons (t : List Rq) (s : Int × Int) (l : List (Int × Int)) : svL t (s :: l) = (visV t s).sv + svL t l := rfl
theorem svL_wo (t : List Rq) (r : Int) : ∀ l : List (Int × Int), svL t l = svL t (woL r l) + svL t (ofR r l)
  | [] => rfl
  | s :: l => by
    have ih := svL_wo t r l
    by_cases h : s.1 = r
    · rw [svL_cons, wo_cons_own h, ofR_cons_same h, svL_cons]; omega
    · rw [svL_cons, wo_cons_other h, ofR_cons_other h, svL_cons]; omega

theorem dr_open {v : Vh} {l : List (Int × Int)} {t : List Rq} (h : Feas.Dr v l t) (hv : v.dr) : Feas.Dr ⟨v.hx, v.hy, 1000, v.st, 8000⟩ l (openT t) :=
  ⟨openV_chk hv, fun q hq => by obtain ⟨z, hz, rfl⟩ := List.mem_map.1 hq; exact openQ_chk (h.ht z hz), h.hl, h.hn, fun s hs => by rw [openT_length]; exact h.hr s hs⟩
theorem open_vis {v : Vh} {l : List (Int × Int)} {t : List Rq} (h : Feas.Dr v l (openT t)) (ht : ∀ q ∈ t, q.dr) : ∀ x ∈ visL (openT t) l, OpV x := by
  intro x hx
  obtain ⟨s, hs, rfl⟩ := List.mem_map.1 hx
  obtain ⟨y, h1, h2, h3⟩ := h.vis hs
  obtain ⟨q, hq, _, _, _, hk⟩ := visO_some h1
  rw [h3]
  obtain ⟨z, hz, rfl⟩ := List.mem_map.1 (List.mem_of_getElem? hq)
  have hn := (ht z hz).2.2.2
  unfold Rq.nr at hn
  obtain ⟨n1, n2, n3, n4, n5, n6⟩ := hn
  rcases hk with ⟨_, rfl⟩ | ⟨_, rfl⟩
  · exact ⟨rfl, rfl, n6, ⟨n1, n2⟩⟩
  · exact ⟨rfl, rfl, n6, ⟨n3, n4⟩⟩
theorem acc_le (t : List Rq) (h : ∀ r, ldR t r ≤ 9 ∧ 0 ≤ ldR t r) : ∀ l : List (Int × Int), acc t l ≤ 9 * l.length
  | [] => by simp [acc]
  | s :: l => by
    have ih := acc_le t h l
    have h1 := h s.1
    have h2 : stN t s ≤ 9 := by
      unfold stN sg
      split <;> omega
    rw [acc, List.length_cons]
    omega
theorem open_ld {t : List Rq} (ht : ∀ q ∈ t, q.dr) (r : Int) : ldR (openT t) r ≤ 9 ∧ 0 ≤ ldR (openT t) r := by
  unfold ldR
  cases e : (openT t)[r.toNat]? with
  | none => simp
  | some q =>
    obtain ⟨z, hz, rfl⟩ := List.mem_map.1 (List.mem_of_getElem? e)
    have hn := (ht z hz).2.2.2
    unfold Rq.nr at hn
    simp only [Option.map_some, Option.getD_some]
    show z.ld ≤ 9 ∧ 0 ≤ z.ld
    omega
/-- Everything is in time, and fits. -/
theorem open_all {v : Vh} {l : List (Int × Int)} {t : List Rq} (h : Feas.Dr v l t) (hv : v.dr) (ht : ∀ q ∈ t, q.dr) :
    errT ⟨v.hx, v.hy, 1000, v.st, 8000⟩ l (openT t) = 0 ∧ fitE ⟨v.hx, v.hy, 1000, v.st, 8000⟩ l (openT t) = 0 ∧
    homeT ⟨v.hx, v.hy, 1000, v.st, 8000⟩ l (openT t) = v.st + wayO ⟨v.hx, v.hy, 1000, v.st, 8000⟩ l (openT t) + svL (openT t) l := by
  have hd := dr_open h hv
  have hn := h.hn
  have hnr := hv.2.2.2
  unfold Vh.nr at hnr
  obtain ⟨r1, r2, r3, r4, r5⟩ := open_run (visL (openT t) l) (sp0 ⟨v.hx, v.hy, 1000, v.st, 8000⟩) (open_vis hd ht) ⟨hnr.1, hnr.2.1⟩ hnr.2.2.1 (by show v.st + _ ≤ _; simp [visL]; omega)
  have hbh : Box (v.hx, v.hy) := ⟨hnr.1, hnr.2.1⟩
  have hdh := box_dist r5 hbh
  rw [show (sp0 (⟨v.hx, v.hy, 1000, v.st, 8000⟩ : Vh)).now = v.st from rfl] at r2 r4
  have e0 : (sp0 (⟨v.hx, v.hy, 1000, v.st, 8000⟩ : Vh)).now = v.st := rfl
  have e1 : ((sp0 (⟨v.hx, v.hy, 1000, v.st, 8000⟩ : Vh)).px, (sp0 (⟨v.hx, v.hy, 1000, v.st, 8000⟩ : Vh)).py) = (v.hx, v.hy) := rfl
  rw [e1] at r2
  rw [e1] at r3
  have e2 : endT ⟨v.hx, v.hy, 1000, v.st, 8000⟩ l (openT t) = (endA (sp0 ⟨v.hx, v.hy, 1000, v.st, 8000⟩) (visL (openT t) l)).now + distV ((endA (sp0 ⟨v.hx, v.hy, 1000, v.st, 8000⟩) (visL (openT t) l)).px, (endA (sp0 ⟨v.hx, v.hy, 1000, v.st, 8000⟩) (visL (openT t) l)).py) (v.hx, v.hy) := rfl
  have hlen : (visL (openT t) l).length ≤ 16 := by simp [visL]; omega
  have hok : okT ⟨v.hx, v.hy, 1000, v.st, 8000⟩ l (openT t) = true := by
    unfold When.okT
    rw [r1, e2]
    simp only [Bool.true_and, decide_eq_true_eq]
    omega
  have herr : errT ⟨v.hx, v.hy, 1000, v.st, 8000⟩ l (openT t) = 0 := by rw [hd.errT, hok]; rfl
  refine ⟨herr, ?_, ?_⟩
  · rw [hd.fit.2, if_pos]
    refine fstF_no fun y hy => ?_
    rw [← prof_profR] at hy
    obtain ⟨k, hk, rfl⟩ := List.mem_map.1 hy
    have h1 := acc_le (openT t) (open_ld ht) (l.take (k + 1))
    have h2 : (l.take (k + 1)).length ≤ 16 := by rw [List.length_take]; omega
    show _ ≤ (1000 : Int)
    omega
  · have e3 : (visL (openT t) l).map spotV = spotsL (openT t) l := by simp [visL, spotsL]
    rw [homeT_ok herr, e2, r3, r2, e3]
    show _ = v.st + wayD (v.hx, v.hy) (spotsL (openT t) l ++ [(v.hx, v.hy)]) + svS (visL (openT t) l)
    rw [wayD_snoc]
    omega

/-- THE RISE IS THE DETOUR, AND TWICE THE SERVICE. -/
theorem open_rise {v : Vh} {l : List (Int × Int)} {t : List Rq} {r i j : Int} {q : Rq} (h : Feas.Dr v l t) (hm : Feas.Dr v (moreL l r i j) t) (hv : v.dr) (ht : ∀ q ∈ t, q.dr) (hw : mayW l r i j = true) (hr : inT t r = true) (hq : t[r.toNat]? = some q) (hl : l.length ≤ 14) :
    riseE ⟨v.hx, v.hy, 1000, v.st, 8000⟩ l (openT t) r i j = 0 ∧ withE ⟨v.hx, v.hy, 1000, v.st, 8000⟩ l (openT t) r i j = 0 ∧ riseV ⟨v.hx, v.hy, 1000, v.st, 8000⟩ l (openT t) r i j = detV ⟨v.hx, v.hy, 1000, v.st, 8000⟩ l (openT t) r i j + 2 * q.sv := by
  obtain ⟨a1, a2, a3⟩ := open_all h hv ht
  obtain ⟨b1, b2, b3⟩ := open_all hm hv ht
  have hrt : inT (openT t) r = true := by unfold inT at *; rw [openT_length]; exact hr
  have hz : riseE ⟨v.hx, v.hy, 1000, v.st, 8000⟩ l (openT t) r i j = 0 := (rise_iff (dr_open hm hv) hw hrt hl).2 ((fault_iff (dr_open hm hv)).2 ⟨b1, b2⟩)
  have hwz := (riseE_zero hz).1
  refine ⟨hz, hwz, ?_⟩
  rw [riseV_ok hz, detV_ok hwz, a3, b3]
  have e1 : woL r (moreL l r i j) = l := wo_with hw
  have hs := svL_wo (openT t) r (moreL l r i j)
  rw [e1] at hs
  have hwi := mayW_iff.1 hw
  have e2 : ofR r (moreL l r i j) = [(r, 0), (r, 1)] := by
    have hR := isR_iff.1 hm.hl
    have hmem : (r, (0 : Int)) ∈ moreL l r i j := by unfold moreL withL; simp
    exact (hR _ hmem).2
  have hq' := openT_get hq
  have e3 : (visV (openT t) (r, 0)).sv = q.sv := by rw [(vis_some (visO_pick (t := openT t) (s := (r, 0)) hrt hq' rfl)).1]; rfl
  have e4 : (visV (openT t) (r, 1)).sv = q.sv := by rw [(vis_some (visO_drop (t := openT t) (s := (r, 1)) hrt hq' rfl)).1]; rfl
  rw [e2, svL_cons, svL_cons, e3, e4] at hs
  have e5 : svL (openT t) [] = 0 := rfl
  omega

end Go.Proofs.YthjdacbgcpldjaaDoor.Ins

/-
  A row of requests that is copied, and changed one by one in place: stage 11's.
-/
namespace Go.Proofs.YthjdacbgcpldjaaDoor.Ins
open Go.RowKit Go.Sort Go.Proofs.YthjdacbgcpldjaaDoor.Mem Go.Proofs.YthjdacbgcpldjaaDoor.Route Go.Proofs.YthjdacbgcpldjaaDoor.When Go.Proofs.YthjdacbgcpldjaaDoor.Load Go.Proofs.YthjdacbgcpldjaaDoor.Feas
set_option linter.unusedVariables false

theorem flat_setL {α : Type} {f : α → List Value} {m : Nat} (hf : ∀ x, (f x).length = m) {x x' : α} {i : Nat} {v : Value} (hi : i < m) (hx' : (f x).set i v = f x') : ∀ {l : List α} {j : Nat}, l[j]? = some x → ((l.map f).flatten).set (j * m + i) v = ((l.set j x').map f).flatten
  | [], _, h => by simp at h
  | y :: l, 0, h => by
    have e : y = x := by simpa using h
    subst e
    simp only [List.map_cons, List.flatten_cons, List.set_cons_zero, Nat.zero_mul, Nat.zero_add]
    rw [List.set_append_left _ _ (by rw [hf]; exact hi), hx']
  | y :: l, j + 1, h => by
    have h' : l[j]? = some x := by simpa using h
    have ih := flat_setL hf hi hx' h'
    simp only [List.map_cons, List.flatten_cons, List.set_cons_succ]
    rw [List.set_append_right _ _ (by rw [hf, Nat.add_mul]; omega), hf, show (j + 1) * m + i - m = j * m + i by rw [Nat.add_mul]; omega, ih]
theorem ownsOpen {W : World} {base n cap : Nat} {e : TypeId} {size : Nat} {x : Option Addr} {xs : List Value} (h : W.ownsRow base e size (.slice x n cap) n xs) (hn : 0 < n) : ∃ g : Nat, x = some ⟨g, 0, none⟩ ∧ base ≤ g := by
  obtain ⟨hl, ⟨e, h0⟩ | ⟨g, cap', cur, e, hb, _⟩⟩ := h
  · omega
  · simp only [Value.slice.injEq] at e
    exact ⟨g, e.1, hb⟩
theorem ownsFar {A : World} {base size k : Nat} {e : TypeId} {v : Value} {xs : List Value} (h : A.ownsRow base e size v k xs) {b : Nat} (hb : ∀ r, v.ownBlock = some r → r ≠ b) (i : Nat) (x : Value) : (A.setCell ⟨b, i, none⟩ x).ownsRow base e size v k xs := by
  obtain ⟨hl, h1 | ⟨g, cap, cur, rfl, hg1, hg, hr⟩⟩ := h
  · exact ⟨hl, .inl h1⟩
  · exact ⟨hl, .inr ⟨g, cap, cur, rfl, hg1, (Below.heap_setCell _ _ _ _ (hb g rfl)).trans hg, hr⟩⟩

theorem rqs_plain {B : Nat} {W : World} {v : Value} {l : List Rq} (h : Rqs B W v l) : Plain v := by
  obtain ⟨x, cap, rfl, h1, h2, h0, _⟩ := h
  cases x with
  | none =>
    have := h0 rfl
    simp at this
    exact .inl (by simp [this])
  | some b => exact .inr ⟨b, _, _, rfl⟩
theorem rqV_len {t : List Rq} : ∀ r ∈ t.map rqV, r.length = 10 := fun r hr => by obtain ⟨s, _, rfl⟩ := List.mem_map.1 hr; rfl
theorem flatQ_length (t : List Rq) : (flatQ t).length = t.length * 10 := by
  induction t with
  | nil => rfl
  | cons q t ih =>
    have : flatQ (q :: t) = rqV q ++ flatQ t := by simp [flatQ]
    rw [this, List.length_append, ih]
    simp [rqV]
    omega
theorem rqs_flat {B : Nat} {W : World} {b : Addr} {N cap : Nat} {l : List Rq} (h : Rqs B W (.slice (some b) N cap) l) : ∀ j u, (flatQ l)[j]? = some u → W.cell? (b.add j) = some u := by
  intro j u hj
  obtain ⟨i, k, r, e, hr, hu⟩ := flat_of (m := 10) (by decide) rqV_len j u hj
  obtain ⟨g, o, hx, hg, hc⟩ := RowB.row h hr
  cases hx
  have := hc k u hu
  rw [add_at, e, show o + (i * 10 + k) = o + i * 10 + k by omega]
  exact this
theorem flatQ_one {t : List Rq} : ∀ u ∈ flatQ t, u.oneCell' = true := by
  intro u hu
  simp only [flatQ, List.mem_flatten, List.mem_map] at hu
  obtain ⟨r, ⟨s, _, rfl⟩, hu⟩ := hu
  simp only [rqV, List.mem_cons, List.not_mem_nil, or_false] at hu
  rcases hu with rfl | rfl | rfl | rfl | rfl | rfl | rfl | rfl | rfl | rfl <;> rfl
theorem flatQ_get {L : List Rq} {k : Nat} {q : Rq} (h : L[k]? = some q) (j : Nat) (hj : j < 10) : (flatQ L)[k * 10 + j]? = (rqV q)[j]? := by
  have hl : (rqV q)[j]? = some ((rqV q)[j]'(by simp [rqV]; omega)) := List.getElem?_eq_getElem _
  rw [hl]
  exact flat_get (m := 10) rqV_len k (rqV q) (by rw [List.getElem?_map, h]; rfl) j _ hl
theorem set_get {L : List Rq} {k : Nat} {q q' : Rq} (h : L[k]? = some q) : (L.set k q')[k]? = some q' := by
  have hk := (List.getElem?_eq_some_iff.1 h).1
  simp [hk]
theorem pick_set {L : List Rq} {k : Nat} {q : Rq} (h : L[k]? = some q) (x y : Int) : ((flatQ L).set (k * 10 + 4) (.int .i64 x)).set (k * 10 + 5) (.int .i64 y) = flatQ (L.set k (pickQ q x y)) := by
  unfold flatQ
  rw [flat_setL (f := rqV) (m := 10) (x := q) (x' := pickQ q x q.pl) (v := .int .i64 x) (fun _ => rfl) (i := 4) (by decide) rfl h,
    flat_setL (f := rqV) (m := 10) (x := pickQ q x q.pl) (x' := pickQ q x y) (v := .int .i64 y) (fun _ => rfl) (i := 5) (by decide) rfl (set_get h), List.set_set]
theorem drop_set {L : List Rq} {k : Nat} {q : Rq} (h : L[k]? = some q) (x y : Int) : ((flatQ L).set (k * 10 + 6) (.int .i64 x)).set (k * 10 + 7) (.int .i64 y) = flatQ (L.set k (dropQ q x y)) := by
  unfold flatQ
  rw [flat_setL (f := rqV) (m := 10) (x := q) (x' := dropQ q x q.dl) (v := .int .i64 x) (fun _ => rfl) (i := 6) (by decide) rfl h,
    flat_setL (f := rqV) (m := 10) (x := dropQ q x q.dl) (x' := dropQ q x y) (v := .int .i64 y) (fun _ => rfl) (i := 7) (by decide) rfl (set_get h), List.set_set]

/-- The first k turned, the others as they were. -/
def mixF {α : Type} (f : α → α) (t : List α) (k : Nat) : List α := (t.take k).map f ++ t.drop k
section
variable {α : Type} {f : α → α} {t : List α} {k : Nat} {q : α}
theorem mixF_get (h : t[k]? = some q) : (mixF f t k)[k]? = some q := by
  have hk := (List.getElem?_eq_some_iff.1 h).1
  unfold mixF
  rw [List.getElem?_append_right (by rw [List.length_map, List.length_take]; omega), List.length_map, List.length_take, List.getElem?_drop]
  rw [show k + (k - min k t.length) = k by omega]
  exact h
theorem mixF_next (h : t[k]? = some q) : (mixF f t k).set k (f q) = mixF f t (k + 1) := by
  have hk := (List.getElem?_eq_some_iff.1 h).1
  have hd : t.drop k = q :: t.drop (k + 1) := by
    rw [List.drop_eq_getElem_cons hk]
    congr 1
    exact (List.getElem?_eq_some_iff.1 h).2
  unfold mixF
  rw [hd, List.set_append_right _ _ (by rw [List.length_map, List.length_take]; omega), List.length_map, List.length_take, show k - min k t.length = 0 by omega, List.set_cons_zero, show t.take (k + 1) = t.take k ++ [q] by rw [List.take_add_one, h]; rfl, List.map_append, List.append_assoc]
  rfl
theorem mixF_zero : mixF f t 0 = t := by unfold mixF; simp
theorem mixF_all : mixF f t t.length = t.map f := by unfold mixF; simp
theorem mixF_length : (mixF f t k).length = t.length := by unfold mixF; simp; omega
end
theorem ownsEmptyQ {W : World} {base n : Nat} {e : TypeId} {m : Nat} (hn : n = W.heap.size) (hb : base ≤ n) : (W.alloc (.cells #[] e)).ownsRow base e m (.slice (some ⟨n, 0, none⟩) 0 0) 0 [] := by
  subst hn
  exact ⟨by simp, .inr ⟨W.heap.size, 0, #[], rfl, hb, heap_alloc_new W _, Nat.le_refl _, Nat.zero_le _, by simp, by simp⟩⟩

end Go.Proofs.YthjdacbgcpldjaaDoor.Ins

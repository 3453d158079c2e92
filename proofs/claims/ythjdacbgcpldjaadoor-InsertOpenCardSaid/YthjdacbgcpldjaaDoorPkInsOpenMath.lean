import Derived.Test.YthjdacbgcpldjaaDoorPkInsRightMath

/-
  Where no window makes anybody wait, a rise is the detour, and twice the service. No program is spoken of here.
-/
namespace Go.Proofs.YthjdacbgcpldjaaDoor.Ins
open Go.RowKit Go.Proofs.YthjdacbgcpldjaaDoor.Order Go.Proofs.YthjdacbgcpldjaaDoor.Place Go.Proofs.YthjdacbgcpldjaaDoor.Route Go.Proofs.YthjdacbgcpldjaaDoor.When Go.Proofs.YthjdacbgcpldjaaDoor.Load Go.Proofs.YthjdacbgcpldjaaDoor.Feas
set_option linter.unusedVariables false

def pickQ (q : Rq) (x y : Int) : Rq := ⟨q.fx, q.fy, q.tx, q.ty, x, y, q.de, q.dl, q.ld, q.sv⟩
def dropQ (q : Rq) (x y : Int) : Rq := ⟨q.fx, q.fy, q.tx, q.ty, q.pe, q.pl, x, y, q.ld, q.sv⟩
/-- A request with both windows wide open. -/
def openQ (q : Rq) : Rq := dropQ (pickQ q 0 4000) 0 4000
def openT (t : List Rq) : List Rq := t.map openQ
theorem openT_get {t : List Rq} {k : Nat} {q : Rq} (h : t[k]? = some q) : (openT t)[k]? = some (openQ q) := by simp [openT, h]
theorem openT_length (t : List Rq) : (openT t).length = t.length := by simp [openT]
theorem openQ_chk {q : Rq} (h : q.chk = 0) : (openQ q).chk = 0 := by
  unfold Rq.chk at *
  rw [Order.chk_iff, Place.mayB_iff, Place.mayB_iff, Window.okB_iff, Window.okB_iff] at h
  unfold openQ dropQ pickQ
  dsimp only
  rw [Order.chk_iff, Place.mayB_iff, Place.mayB_iff, Window.okB_iff]
  omega
theorem openV_chk {v : Vh} (h : v.dr) : Vh.chk ⟨v.hx, v.hy, 1000, v.st, 8000⟩ = 0 := by
  obtain ⟨h1, _, _, h2⟩ := h
  unfold Vh.nr at h2
  unfold Vh.chk at *
  rw [Order.veh_iff, Place.mayB_iff] at h1
  dsimp only
  rw [Order.veh_iff, Place.mayB_iff]
  omega

def Box (p : Int × Int) : Prop := (500 ≤ p.1 ∧ p.1 < 520) ∧ 500 ≤ p.2 ∧ p.2 < 520
theorem box_dist {a b : Int × Int} (ha : Box a) (hb : Box b) : 0 ≤ distV a b ∧ distV a b ≤ 38 := by
  obtain ⟨h1, h2, h3⟩ := ha
  obtain ⟨h4, h5, h6⟩ := hb
  have e1 : mayB a = true := (Place.mayB_iff ..).2 (by omega)
  have e2 : mayB b = true := (Place.mayB_iff ..).2 (by omega)
  unfold distV
  rw [e1, e2]
  simp only [Bool.and_self, if_true]
  unfold gap
  repeat' split
  all_goals omega
/-- A visit that may be at any time. -/
structure OpV (x : Vi) : Prop where
  we : x.we = 0
  wl : x.wl = 4000
  sv : 0 ≤ x.sv ∧ x.sv ≤ 3
  box : Box (spotV x)
theorem OpV.ok {x : Vi} (h : OpV x) : OkVi x := by
  have h1 := h.we
  have h2 := h.wl
  have h3 := h.sv
  unfold OkVi
  omega
def svS : List Vi → Int
  | [] => 0
  | x :: xs => x.sv + svS xs
theorem open_run : ∀ (xs : List Vi) (a : Sp), (∀ x ∈ xs, OpV x) → Box (a.px, a.py) → 0 ≤ a.now → a.now + 41 * xs.length ≤ 4000 →
    allB a xs = true ∧ (endA a xs).now = a.now + wayD (a.px, a.py) (xs.map spotV) + svS xs ∧ ((endA a xs).px, (endA a xs).py) = lastD (a.px, a.py) (xs.map spotV) ∧ (endA a xs).now ≤ a.now + 41 * xs.length ∧ Box ((endA a xs).px, (endA a xs).py)
  | [], a, _, hb, h0, _ => ⟨rfl, by simp [endA, wayD, svS], rfl, by simp [endA], hb⟩
  | x :: xs, a, hx, hb, h0, h1 => by
    have hX := hx x (List.mem_cons_self ..)
    have hd := box_dist hb hX.box
    have hda : arV a x = a.now + distV (a.px, a.py) (spotV x) := rfl
    have hwe := hX.we
    have hwl := hX.wl
    have hsv := hX.sv
    simp only [List.length_cons] at h1
    have hin : inB a x = true := by
      unfold inB
      rw [wait_ok hX.ok, decide_eq_true_eq]
      omega
    have hbe : beV a x = arV a x := by
      unfold beV
      rw [wait_yes (by unfold inB at hin; exact hin)]
      omega
    have hgo : goV a x = ⟨arV a x + x.sv, x.px, x.py⟩ := by unfold goV; rw [hbe]
    obtain ⟨i1, i2, i3, i4, i5⟩ := open_run xs (goV a x) (fun y hy => hx y (List.mem_cons_of_mem _ hy)) (by rw [hgo]; exact hX.box) (by rw [hgo]; show 0 ≤ arV a x + x.sv; omega) (by rw [hgo]; show arV a x + x.sv + _ ≤ _; omega)
    have e1 : endA a (x :: xs) = endA (goV a x) xs := rfl
    have e2 : allB a (x :: xs) = (inB a x && allB (goV a x) xs) := rfl
    have e3 : ((goV a x).px, (goV a x).py) = spotV x := by rw [hgo]; rfl
    have e4 : (goV a x).now = arV a x + x.sv := by rw [hgo]
    refine ⟨by rw [e2, hin, i1]; rfl, ?_, ?_, ?_, by rw [e1]; exact i5⟩
    · rw [e1, i2, e3, e4, List.map_cons, wayD, svS]
      omega
    · rw [e1, i3, e3]
      rfl
    · rw [e1]
      simp only [List.length_cons]
      omega

def svL (t : List Rq) (l : List (Int × Int)) : Int := svS (visL t l)
theorem svL_cons (t : List Rq) (s : Int × Int) (l : List (Int × Int)) : svL t (s :: l) = (visV t s).sv + svL t l := rfl
theorem svL_wo (t : List Rq) (r : Int) : ∀ l : List (Int × Int), svL t l = svL t (woL r l) + svL t (ofR r l)
  | [] => rfl
  | s :: l => by
    have ih := svL_wo t r l
    by_cases h : s.1 = r
    · rw [svL_cons, wo_cons_own h, ofR_cons_same h, svL_cons]; omega
    · rw [svL_cons, wo_cons_other h, ofR_cons_other h, svL_cons]; omega

theorem dr_open {v : Vh} {l : List (Int × Int)} {t : List Rq} (h : Feas.Dr v l t) (hv : v.dr) : Feas.Dr ⟨v.hx, v.hy, 1000, v.st, 8000⟩ l (openT t) :=
  ⟨openV_chk hv, fun q hq => by obtain ⟨z, hz, rfl⟩ := List.mem_map.1 hq; exact openQ_chk (h.ht z hz), h.hl, h.hn, fun s hs => by rw [openT_length]; exact h.hr s hs⟩
theorem open_vis {v : Vh} {l : List (Int × Int)} {t : List Rq} (h : Feas.Dr v l (openT t)) (ht : ∀ q ∈ t, q.dr) : ∀ x ∈ visL (openT t) l, OpV x := by
  intro x hx
  obtain ⟨s, hs, rfl⟩ := List.mem_map.1 hx
  obtain ⟨y, h1, h2, h3⟩ := h.vis hs
  obtain ⟨q, hq, _, _, _, hk⟩ := visO_some h1
  rw [h3]
  obtain ⟨z, hz, rfl⟩ := List.mem_map.1 (List.mem_of_getElem? hq)
  have hn := (ht z hz).2.2.2
  unfold Rq.nr at hn
  obtain ⟨n1, n2, n3, n4, n5, n6⟩ := hn
  rcases hk with ⟨_, rfl⟩ | ⟨_, rfl⟩
  · exact ⟨rfl, rfl, n6, ⟨n1, n2⟩⟩
  · exact ⟨rfl, rfl, n6, ⟨n3, n4⟩⟩
theorem acc_le (t : List Rq) (h : ∀ r, ldR t r ≤ 9 ∧ 0 ≤ ldR t r) : ∀ l : List (Int × Int), acc t l ≤ 9 * l.length
  | [] => by simp [acc]
  | s :: l => by
    have ih := acc_le t h l
    have h1 := h s.1
    have h2 : stN t s ≤ 9 := by
      unfold stN sg
      split <;> omega
    rw [acc, List.length_cons]
    omega
theorem open_ld {t : List Rq} (ht : ∀ q ∈ t, q.dr) (r : Int) : ldR (openT t) r ≤ 9 ∧ 0 ≤ ldR (openT t) r := by
  unfold ldR
  cases e : (openT t)[r.toNat]? with
  | none => simp
  | some q =>
    obtain ⟨z, hz, rfl⟩ := List.mem_map.1 (List.mem_of_getElem? e)
    have hn := (ht z hz).2.2.2
    unfold Rq.nr at hn
    simp only [Option.map_some, Option.getD_some]
    show z.ld ≤ 9 ∧ 0 ≤ z.ld
    omega
/-- Everything is in time, and fits. -/
theorem open_all {v : Vh} {l : List (Int × Int)} {t : List Rq} (h : Feas.Dr v l t) (hv : v.dr) (ht : ∀ q ∈ t, q.dr) :
    errT ⟨v.hx, v.hy, 1000, v.st, 8000⟩ l (openT t) = 0 ∧ fitE ⟨v.hx, v.hy, 1000, v.st, 8000⟩ l (openT t) = 0 ∧
    homeT ⟨v.hx, v.hy, 1000, v.st, 8000⟩ l (openT t) = v.st + wayO ⟨v.hx, v.hy, 1000, v.st, 8000⟩ l (openT t) + svL (openT t) l := by
  have hd := dr_open h hv
  have hn := h.hn
  have hnr := hv.2.2.2
  unfold Vh.nr at hnr
  obtain ⟨r1, r2, r3, r4, r5⟩ := open_run (visL (openT t) l) (sp0 ⟨v.hx, v.hy, 1000, v.st, 8000⟩) (open_vis hd ht) ⟨hnr.1, hnr.2.1⟩ hnr.2.2.1 (by show v.st + _ ≤ _; simp [visL]; omega)
  have hbh : Box (v.hx, v.hy) := ⟨hnr.1, hnr.2.1⟩
  have hdh := box_dist r5 hbh
  rw [show (sp0 (⟨v.hx, v.hy, 1000, v.st, 8000⟩ : Vh)).now = v.st from rfl] at r2 r4
  have e0 : (sp0 (⟨v.hx, v.hy, 1000, v.st, 8000⟩ : Vh)).now = v.st := rfl
  have e1 : ((sp0 (⟨v.hx, v.hy, 1000, v.st, 8000⟩ : Vh)).px, (sp0 (⟨v.hx, v.hy, 1000, v.st, 8000⟩ : Vh)).py) = (v.hx, v.hy) := rfl
  rw [e1] at r2
  rw [e1] at r3
  have e2 : endT ⟨v.hx, v.hy, 1000, v.st, 8000⟩ l (openT t) = (endA (sp0 ⟨v.hx, v.hy, 1000, v.st, 8000⟩) (visL (openT t) l)).now + distV ((endA (sp0 ⟨v.hx, v.hy, 1000, v.st, 8000⟩) (visL (openT t) l)).px, (endA (sp0 ⟨v.hx, v.hy, 1000, v.st, 8000⟩) (visL (openT t) l)).py) (v.hx, v.hy) := rfl
  have hlen : (visL (openT t) l).length ≤ 16 := by simp [visL]; omega
  have hok : okT ⟨v.hx, v.hy, 1000, v.st, 8000⟩ l (openT t) = true := by
    unfold When.okT
    rw [r1, e2]
    simp only [Bool.true_and, decide_eq_true_eq]
    omega
  have herr : errT ⟨v.hx, v.hy, 1000, v.st, 8000⟩ l (openT t) = 0 := by rw [hd.errT, hok]; rfl
  refine ⟨herr, ?_, ?_⟩
  · rw [hd.fit.2, if_pos]
    refine fstF_no fun y hy => ?_
    rw [← prof_profR] at hy
    obtain ⟨k, hk, rfl⟩ := List.mem_map.1 hy
    have h1 := acc_le (openT t) (open_ld ht) (l.take (k + 1))
    have h2 : (l.take (k + 1)).length ≤ 16 := by rw [List.length_take]; omega
    show _ ≤ (1000 : Int)
    omega
  · have e3 : (visL (openT t) l).map spotV = spotsL (openT t) l := by simp [visL, spotsL]
    rw [homeT_ok herr, e2, r3, r2, e3]
    show _ = v.st + wayD (v.hx, v.hy) (spotsL (openT t) l ++ [(v.hx, v.hy)]) + svS (visL (openT t) l)
    rw [wayD_snoc]
    omega

/-- THE RISE IS THE DETOUR, AND TWICE THE SERVICE. -/
theorem open_rise {v : Vh} {l : List (Int × Int)} {t : List Rq} {r i j : Int} {q : Rq} (h : Feas.Dr v l t) (hm : Feas.Dr v (moreL l r i j) t) (hv : v.dr) (ht : ∀ q ∈ t, q.dr) (hw : mayW l r i j = true) (hr : inT t r = true) (hq : t[r.toNat]? = some q) (hl : l.length ≤ 14) :
    riseE ⟨v.hx, v.hy, 1000, v.st, 8000⟩ l (openT t) r i j = 0 ∧ withE ⟨v.hx, v.hy, 1000, v.st, 8000⟩ l (openT t) r i j = 0 ∧ riseV ⟨v.hx, v.hy, 1000, v.st, 8000⟩ l (openT t) r i j = detV ⟨v.hx, v.hy, 1000, v.st, 8000⟩ l (openT t) r i j + 2 * q.sv := by
  obtain ⟨a1, a2, a3⟩ := open_all h hv ht
  obtain ⟨b1, b2, b3⟩ := open_all hm hv ht
  have hrt : inT (openT t) r = true := by unfold inT at *; rw [openT_length]; exact hr
  have hz : riseE ⟨v.hx, v.hy, 1000, v.st, 8000⟩ l (openT t) r i j = 0 := (rise_iff (dr_open hm hv) hw hrt hl).2 ((fault_iff (dr_open hm hv)).2 ⟨b1, b2⟩)
  have hwz := (riseE_zero hz).1
  refine ⟨hz, hwz, ?_⟩
  rw [riseV_ok hz, detV_ok hwz, a3, b3]
  have e1 : woL r (moreL l r i j) = l := wo_with hw
  have hs := svL_wo (openT t) r (moreL l r i j)
  rw [e1] at hs
  have hwi := mayW_iff.1 hw
  have e2 : ofR r (moreL l r i j) = [(r, 0), (r, 1)] := by
    have hR := isR_iff.1 hm.hl
    have hmem : (r, (0 : Int)) ∈ moreL l r i j := by unfold moreL withL; simp
    exact (hR _ hmem).2
  have hq' := openT_get hq
  have e3 : (visV (openT t) (r, 0)).sv = q.sv := by rw [(vis_some (visO_pick (t := openT t) (s := (r, 0)) hrt hq' rfl)).1]; rfl
  have e4 : (visV (openT t) (r, 1)).sv = q.sv := by rw [(vis_some (visO_drop (t := openT t) (s := (r, 1)) hrt hq' rfl)).1]; rfl
  rw [e2, svL_cons, svL_cons, e3, e4] at hs
  have e5 : svL (openT t) [] = 0 := rfl
  omega

end Go.Proofs.YthjdacbgcpldjaaDoor.Ins

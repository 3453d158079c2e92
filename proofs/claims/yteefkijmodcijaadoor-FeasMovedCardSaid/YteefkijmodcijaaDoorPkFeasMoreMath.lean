import Derived.Test.YteefkijmodcijaaDoorPkClose

/-
  Wider windows, more room, a longer shift; all later by as much. No program is spoken of here.
-/
namespace Go.Proofs.YteefkijmodcijaaDoor.Feas
open Go.Proofs.YteefkijmodcijaaDoor.Order Go.Proofs.YteefkijmodcijaaDoor.Place Go.Proofs.YteefkijmodcijaaDoor.Route Go.Proofs.YteefkijmodcijaaDoor.When Go.Proofs.YteefkijmodcijaaDoor.Load Go.Proofs.YteefkijmodcijaaDoor.Window
set_option linter.unusedVariables false

theorem ld_map {f : Rq → Rq} (hf : ∀ q, (f q).ld = q.ld) (t : List Rq) (r : Int) : ldR (t.map f) r = ldR t r := by
  unfold ldR
  rw [List.getElem?_map, Option.map_map]
  congr 2
  funext q
  exact hf q
theorem acc_map {f : Rq → Rq} (hf : ∀ q, (f q).ld = q.ld) (t : List Rq) : ∀ l : List (Int × Int), acc (t.map f) l = acc t l
  | [] => rfl
  | s :: l => by rw [acc, acc, acc_map hf t l]; unfold stN; rw [ld_map hf]
theorem board_map {f : Rq → Rq} (hf : ∀ q, (f q).ld = q.ld) (t : List Rq) {c c' : Int} (hc : c ≤ c') : ∀ {l pre : List (Int × Int)}, boardB c t pre l = true → boardB c' (t.map f) pre l = true
  | [], _, _ => rfl
  | s :: l, pre, h => by
    rw [boardB, Bool.and_eq_true, decide_eq_true_eq] at h ⊢
    exact ⟨by rw [acc_map hf]; omega, board_map hf t hc h.2⟩
theorem vis_map {f : Rq → Rq} {t : List Rq} {s : Int × Int} {pre : List (Int × Int)} (h : stB t pre s = true) : ∃ q, q ∈ t ∧ (s.2 = 0 ∧ visV t s = ⟨q.fx, q.fy, q.pe, q.pl, q.sv⟩ ∧ visV (t.map f) s = ⟨(f q).fx, (f q).fy, (f q).pe, (f q).pl, (f q).sv⟩ ∨ s.2 = 1 ∧ visV t s = ⟨q.tx, q.ty, q.de, q.dl, q.sv⟩ ∧ visV (t.map f) s = ⟨(f q).tx, (f q).ty, (f q).de, (f q).dl, (f q).sv⟩) := by
  obtain ⟨⟨h1, h2⟩, h3, _⟩ := stB_iff.1 h
  have hi : inT t s.1 = true := by simp [inT, h1, h2]
  have hi' : inT (t.map f) s.1 = true := by simp [inT, h1, h2]
  obtain ⟨q, hq, _⟩ := inT_get hi
  have hq' : (t.map f)[s.1.toNat]? = some (f q) := by rw [List.getElem?_map, hq]; rfl
  refine ⟨q, List.mem_of_getElem? hq, ?_⟩
  rcases h3 with h3 | h3
  · exact .inl ⟨h3, by simp [visV, visO_pick hi hq h3], by simp [visV, visO_pick hi' hq' h3]⟩
  · exact .inr ⟨h3, by simp [visV, visO_drop hi hq h3], by simp [visV, visO_drop hi' hq' h3]⟩
theorem st_map (f : Rq → Rq) (t : List Rq) (pre : List (Int × Int)) (s : Int × Int) : stB (t.map f) pre s = stB t pre s := by simp [stB, inT]

/-- A visit that is the same but for a wider window. -/
def Wid (x y : Vi) : Prop := y.px = x.px ∧ y.py = x.py ∧ y.sv = x.sv ∧ y.we ≤ x.we ∧ x.wl ≤ y.wl
def WidQ (q r : Rq) : Prop := r.fx = q.fx ∧ r.fy = q.fy ∧ r.tx = q.tx ∧ r.ty = q.ty ∧ r.sv = q.sv ∧ r.pe ≤ q.pe ∧ q.pl ≤ r.pl ∧ r.de ≤ q.de ∧ q.dl ≤ r.dl
theorem arV_wid {a a' : Sp} {x y : Vi} (h : a'.now ≤ a.now) (hx : a'.px = a.px) (hy : a'.py = a.py) (hw : Wid x y) : arV a' y ≤ arV a x := by
  unfold arV
  rw [hx, hy, hw.1, hw.2.1]
  omega
theorem kept_wid {g : Int × Int → Vi} {k : Int × Int → Vi} : ∀ {l : List (Int × Int)} {ys : List Tm} {a a' b : Sp}, (∀ s ∈ l, Wid (g s) (k s)) → keptL a (l.map g) ys = some b → a'.now ≤ a.now → a'.px = a.px → a'.py = a.py →
    ∃ b', keptL a' (l.map k) ys = some b' ∧ b'.now ≤ b.now ∧ b'.px = b.px ∧ b'.py = b.py
  | [], ys, a, a', b, _, h, h1, h2, h3 => by
    simp [keptL] at h
    subst h
    exact ⟨a', by simp [keptL], h1, h2, h3⟩
  | s :: l, [], _, _, _, _, h, _, _, _ => by simp [keptL] at h
  | s :: l, y :: ys, a, a', b, hw, h, h1, h2, h3 => by
    have hws := hw s (List.mem_cons_self ..)
    rw [List.map_cons, keptL] at h
    split at h
    · rename_i hk
      obtain ⟨k1, k2, ⟨k3, k4⟩, k5⟩ := keptB_iff.1 hk
      have ha := arV_wid h1 h2 h3 hws
      obtain ⟨w1, w2, w3, w4, w5⟩ := hws
      obtain ⟨b', e1, e2⟩ := kept_wid (k := k) (a' := ⟨y.lv, (k s).px, (k s).py⟩) (fun z hz => hw z (List.mem_cons_of_mem _ hz)) h (Int.le_refl _) w1 w2
      refine ⟨b', ?_, e2⟩
      rw [List.map_cons, keptL, if_pos (keptB_iff.2 ⟨by omega, k2, ⟨by omega, by omega⟩, by omega⟩), e1]
    · cases h
theorem early_wid {g : Int × Int → Vi} {k : Int × Int → Vi} : ∀ {l : List (Int × Int)} {a a' b : Sp}, (∀ s ∈ l, Wid (g s) (k s)) → earlyL a (l.map g) = some b → a'.now ≤ a.now → a'.px = a.px → a'.py = a.py →
    ∃ b', earlyL a' (l.map k) = some b' ∧ b'.now ≤ b.now ∧ b'.px = b.px ∧ b'.py = b.py
  | [], a, a', b, _, h, h1, h2, h3 => by
    simp [earlyL] at h
    subst h
    exact ⟨a', by simp [earlyL], h1, h2, h3⟩
  | s :: l, a, a', b, hw, h, h1, h2, h3 => by
    have hws := hw s (List.mem_cons_self ..)
    rw [List.map_cons, earlyL] at h
    split at h
    · rename_i hk
      have ha := arV_wid h1 h2 h3 hws
      obtain ⟨w1, w2, w3, w4, w5⟩ := hws
      obtain ⟨b', e1, e2⟩ := early_wid (k := k) (a' := ⟨max (arV a' (k s)) (k s).we + (k s).sv, (k s).px, (k s).py⟩) (fun z hz => hw z (List.mem_cons_of_mem _ hz)) h (by dsimp only; omega) w1 w2
      refine ⟨b', ?_, e2⟩
      rw [List.map_cons, earlyL, if_pos (by omega), e1]
    · cases h
theorem wid_vis {f : Rq → Rq} {v : Vh} {l : List (Int × Int)} {t : List Rq} (h : Dr v l t) (hf : ∀ q ∈ t, WidQ q (f q)) : ∀ s ∈ l, Wid (visV t s) (visV (t.map f) s) := by
  intro s hs
  obtain ⟨p, q, e⟩ := List.append_of_mem hs
  obtain ⟨r, hr, ⟨_, h1, h2⟩ | ⟨_, h1, h2⟩⟩ := vis_map (f := f) (route_stB h.hl h.hr e)
  · obtain ⟨w1, w2, w3, w4, w5, w6, w7, w8, w9⟩ := hf r hr
    rw [h1, h2]
    exact ⟨w1, w2, w5, w6, w7⟩
  · obtain ⟨w1, w2, w3, w4, w5, w6, w7, w8, w9⟩ := hf r hr
    rw [h1, h2]
    exact ⟨w3, w4, w5, w8, w9⟩
/-- What serves a route still serves it. -/
theorem more_serves {f : Rq → Rq} {v w : Vh} {l : List (Int × Int)} {t : List Rq} (hld : ∀ q, (f q).ld = q.ld) (hf : ∀ q ∈ t, WidQ q (f q)) (h : Dr v l t) (h' : Dr w l (t.map f)) (hx : w.hx = v.hx) (hy : w.hy = v.hy) (hc : v.cp ≤ w.cp) (hs : w.st ≤ v.st) (he : v.en ≤ w.en) :
    (∀ ts, rightB v l t ts = true → rightB w l (t.map f) ts = true) ∧ ((faultV v l t).1 = 0 → (faultV w l (t.map f)).1 = 0) := by
  have hw := wid_vis h hf
  have hhome : Wid (homeV v) (homeV w) := ⟨hx, hy, rfl, Int.le_refl _, he⟩
  constructor
  · intro ts hr
    obtain ⟨h1, hb, b, h2, h3⟩ := h.right.1 hr
    obtain ⟨b', e1, e2, e3, e4⟩ := kept_wid (a' := sp0 w) hw h2 hs hx hy
    exact h'.right.2 ⟨h1, board_map hld t hc hb, b', e1, by have := arV_wid e2 e3 e4 hhome; omega⟩
  · intro hr
    obtain ⟨hb, b, h2, h3⟩ := h.fault.1 hr
    obtain ⟨b', e1, e2, e3, e4⟩ := early_wid (a' := sp0 w) hw h2 hs hx hy
    exact h'.fault.2 ⟨board_map hld t hc hb, b', e1, by have := arV_wid e2 e3 e4 hhome; omega⟩

/-- FeasMore's requests, its vehicle. -/
def moreQ (b0 b1 b3 : Int) (q : Rq) : Rq := ⟨q.fx, q.fy, q.tx, q.ty, max 0 (q.pe - b3), q.pl + b0, max 0 (q.de - b1), q.dl + b3, q.ld, q.sv⟩
def moreV (b0 b1 b2 : Int) (v : Vh) : Vh := ⟨v.hx, v.hy, v.cp + b0, max 0 (v.st - b1), v.en + b2⟩
theorem Dr.more {v : Vh} {l : List (Int × Int)} {t : List Rq} {b0 b1 b2 b3 : Int} (h : Dr v l t) (hv : v.dr) (ht : ∀ q ∈ t, q.dr) (h0 : 0 ≤ b0 ∧ b0 < 256) (h1 : 0 ≤ b1 ∧ b1 < 256) (h2 : 0 ≤ b2 ∧ b2 < 256) (h3 : 0 ≤ b3 ∧ b3 < 256) : Dr (moreV b0 b1 b2 v) l (t.map (moreQ b0 b1 b3)) := by
  refine ⟨?_, fun q hq => ?_, h.hl, h.hn, fun s hs => by rw [List.length_map]; exact h.hr s hs⟩
  · obtain ⟨c1, c2, c3⟩ := hv
    unfold Vh.chk at c1 ⊢
    rw [Order.veh_iff] at c1 ⊢
    obtain ⟨d1, d2, d3, d4⟩ := c1
    refine ⟨d1, ?_⟩
    simp only [moreV]
    omega
  · obtain ⟨p, hp, rfl⟩ := List.mem_map.1 hq
    obtain ⟨c1, c2, c3⟩ := ht p hp
    unfold Rq.chk at c1 ⊢
    rw [Order.chk_iff] at c1 ⊢
    obtain ⟨⟨d1, d2⟩, ⟨d3, d4⟩, d5⟩ := c1
    rw [Window.okB_iff] at d3 d4
    refine ⟨⟨d1, d2⟩, ⟨?_, ?_⟩, d5⟩
    · rw [Window.okB_iff]; simp only [moreQ]; omega
    · rw [Window.okB_iff]; simp only [moreQ]; omega
theorem more_all {v : Vh} {l : List (Int × Int)} {t : List Rq} {b0 b1 b2 b3 : Int} (h : Dr v l t) (hv : v.dr) (ht : ∀ q ∈ t, q.dr) (h0 : 0 ≤ b0 ∧ b0 < 256) (h1 : 0 ≤ b1 ∧ b1 < 256) (h2 : 0 ≤ b2 ∧ b2 < 256) (h3 : 0 ≤ b3 ∧ b3 < 256) :
    (∀ ts, rightB v l t ts = true → rightB (moreV b0 b1 b2 v) l (t.map (moreQ b0 b1 b3)) ts = true) ∧ ((faultV v l t).1 = 0 → (faultV (moreV b0 b1 b2 v) l (t.map (moreQ b0 b1 b3))).1 = 0) := by
  have hst := h.hv
  unfold Vh.chk at hst
  rw [Order.veh_iff] at hst
  refine more_serves (fun q => rfl) (fun q hq => ?_) h (h.more hv ht h0 h1 h2 h3) rfl rfl (by simp only [moreV]; omega) (by simp only [moreV]; omega) (by simp only [moreV]; omega)
  have hc := h.ht q hq
  unfold Rq.chk at hc
  rw [Order.chk_iff, Window.okB_iff, Window.okB_iff] at hc
  exact ⟨rfl, rfl, rfl, rfl, rfl, by simp only [moreQ]; omega, by simp only [moreQ]; omega, by simp only [moreQ]; omega, by simp only [moreQ]; omega⟩

/-- All later by d. -/
def shQ (d : Int) (q : Rq) : Rq := ⟨q.fx, q.fy, q.tx, q.ty, q.pe + d, q.pl + d, q.de + d, q.dl + d, q.ld, q.sv⟩
def shH (d : Int) (v : Vh) : Vh := ⟨v.hx, v.hy, v.cp, v.st + d, v.en + d⟩
def shV (d : Int) (x : Vi) : Vi := ⟨x.px, x.py, x.we + d, x.wl + d, x.sv⟩
def shS (d : Int) (a : Sp) : Sp := ⟨a.now + d, a.px, a.py⟩
def shT (d : Int) (y : Tm) : Tm := ⟨y.ar + d, y.be + d, y.lv + d⟩
theorem arV_sh (d : Int) (a : Sp) (x : Vi) : arV (shS d a) (shV d x) = arV a x + d := by
  unfold arV shS shV
  dsimp only
  omega
theorem vis_sh {d : Int} {t : List Rq} {s : Int × Int} {pre : List (Int × Int)} (h : stB t pre s = true) : visV (t.map (shQ d)) s = shV d (visV t s) := by
  obtain ⟨r, hr, ⟨_, h1, h2⟩ | ⟨_, h1, h2⟩⟩ := vis_map (f := shQ d) h
  · rw [h1, h2]; rfl
  · rw [h1, h2]; rfl
def ShP (d : Int) (L : Nat) (P P' : Pace) : Prop := ∀ (k : Nat) (x : Vi) (n : Int), k < L → P' k (shV d x) (n + d) = ((P k x n).1 + d, (P k x n).2)
theorem early_sh (d : Int) (L : Nat) : ShP d L earlyP earlyP := by
  intro k x n _
  show (max (n + d) (x.we + d) + x.sv, decide (n + d ≤ x.wl + d)) = (max n x.we + x.sv + d, decide (n ≤ x.wl))
  rw [show max (n + d) (x.we + d) + x.sv = max n x.we + x.sv + d by omega, decide_eq_decide.2 (show n + d ≤ x.wl + d ↔ n ≤ x.wl by omega)]
theorem kept_sh (d : Int) (ts : List Tm) : ShP d ts.length (keptP ts) (keptP (ts.map (shT d))) := by
  intro k x n hk
  have e : tmAt (ts.map (shT d)) k = shT d (tmAt ts k) := by
    unfold tmAt
    rw [List.getElem?_map, List.getElem?_eq_getElem hk]
    rfl
  simp only [keptP, e]
  refine Prod.ext rfl ?_
  rw [Bool.eq_iff_iff, keptB_iff, keptB_iff]
  simp only [shT, shV]
  omega
theorem walk_sh {d : Int} {v : Vh} {t : List Rq} {P P' : Pace} : ∀ {l pre : List (Int × Int)} {a : Sp}, ShP d (pre.length + l.length) P P' →
    walkV (shH d v) (t.map (shQ d)) P' pre (shS d a) l = ((walkV v t P pre a l).1, (walkV v t P pre a l).2.1, shS d (walkV v t P pre a l).2.2)
  | [], pre, a, _ => rfl
  | s :: l, pre, a, hP => by
    have hk : pre.length < pre.length + (s :: l).length := by simp
    have hacc : ∀ x, acc (t.map (shQ d)) x = acc t x := acc_map (f := shQ d) (fun q => rfl) t
    have he : srvV (shH d v) (t.map (shQ d)) P' pre (shS d a) s = srvV v t P pre a s := by
      unfold srvV
      rw [st_map, hacc]
      cases hst : stB t pre s
      · simp
      · rw [vis_sh hst, arV_sh, hP _ _ _ hk]
        rfl
    by_cases h0 : srvV v t P pre a s = 0
    · have hst := (srv_bits.1 h0).2.1
      rw [walkV_go h0, walkV_go (by rw [he]; exact h0)]
      have hg : goP P' pre.length (shS d a) (visV (t.map (shQ d)) s) = shS d (goP P pre.length a (visV t s)) := by
        rw [vis_sh hst]
        unfold goP
        rw [arV_sh, hP _ _ _ hk]
        rfl
      rw [hg]
      exact walk_sh (by simpa [Nat.add_assoc, Nat.add_comm 1] using hP)
    · rw [walkV_stop h0, walkV_stop (by rw [he]; exact h0), he]
theorem look_sh {d : Int} {v : Vh} {l : List (Int × Int)} {t : List Rq} {P P' : Pace} (h : Dr v l t) (h' : Dr (shH d v) l (t.map (shQ d))) (hP : ShP d l.length P P') : lookV (shH d v) l (t.map (shQ d)) P' = lookV v l t P := by
  have h1 := badK_ok.2 h.ht
  have h2 := badK_ok.2 h'.ht
  have hw := walk_sh (d := d) (v := v) (t := t) (l := l) (pre := []) (a := sp0 v) (by simpa using hP)
  unfold lookV
  have g1 : ¬ (0 ≤ badK t) := by omega
  have g2 : ¬ (0 ≤ badK (t.map (shQ d))) := by omega
  have g3 : ¬ (v.chk ≠ 0) := by have := h.hv; omega
  have g4 : ¬ ((shH d v).chk ≠ 0) := by have := h'.hv; omega
  rw [if_neg g4, if_neg g2, if_neg g3, if_neg g1]
  rw [show sp0 (shH d v) = shS d (sp0 v) from rfl, hw]
  dsimp only
  have hh : homeE (shH d v) (t.map (shQ d)) l (shS d (walkV v t P [] (sp0 v) l).2.2) = homeE v t l (walkV v t P [] (sp0 v) l).2.2 := by
    unfold homeE
    rw [acc_map (f := shQ d) (fun q => rfl) t]
    have e : arV (shS d (walkV v t P [] (sp0 v) l).2.2) (homeV (shH d v)) = arV (walkV v t P [] (sp0 v) l).2.2 (homeV v) + d := by
      unfold arV shS homeV shH
      dsimp only
      omega
    rw [e]
    by_cases hc : v.en < arV (walkV v t P [] (sp0 v) l).2.2 (homeV v)
    · have e2 : (shH d v).en = v.en + d := rfl
      rw [e2, if_pos hc, if_pos (show v.en + d < arV (walkV v t P [] (sp0 v) l).2.2 (homeV v) + d by omega)]
    · have e2 : (shH d v).en = v.en + d := rfl
      rw [e2, if_neg hc, if_neg (show ¬ (v.en + d < arV (walkV v t P [] (sp0 v) l).2.2 (homeV v) + d) by omega)]
  rw [hh]
theorem Dr.moved {v : Vh} {l : List (Int × Int)} {t : List Rq} {d : Int} (h : Dr v l t) (hv : v.dr) (ht : ∀ q ∈ t, q.dr) (hd : 0 ≤ d ∧ d < 65536) : Dr (shH d v) l (t.map (shQ d)) := by
  refine ⟨?_, fun q hq => ?_, h.hl, h.hn, fun s hs => by rw [List.length_map]; exact h.hr s hs⟩
  · obtain ⟨c1, c2, c3⟩ := hv
    unfold Vh.chk at c1 ⊢
    rw [Order.veh_iff] at c1 ⊢
    obtain ⟨d1, d2, d3, d4⟩ := c1
    refine ⟨d1, ?_⟩
    simp only [shH]
    omega
  · obtain ⟨p, hp, rfl⟩ := List.mem_map.1 hq
    obtain ⟨c1, c2, c3⟩ := ht p hp
    unfold Rq.chk at c1 ⊢
    rw [Order.chk_iff] at c1 ⊢
    obtain ⟨⟨d1, d2⟩, ⟨d3, d4⟩, d5⟩ := c1
    rw [Window.okB_iff] at d3 d4
    refine ⟨⟨d1, d2⟩, ⟨?_, ?_⟩, d5⟩
    · rw [Window.okB_iff]; simp only [shQ]; omega
    · rw [Window.okB_iff]; simp only [shQ]; omega
/-- What is wrong is the same; it is right just if it was. -/
theorem moved_all {v : Vh} {l : List (Int × Int)} {t : List Rq} {d : Int} {ts : List Tm} (h : Dr v l t) (hv : v.dr) (ht : ∀ q ∈ t, q.dr) (hd : 0 ≤ d ∧ d < 65536) (hts : ts.length = l.length) :
    faultV (shH d v) l (t.map (shQ d)) = faultV v l t ∧ rightB (shH d v) l (t.map (shQ d)) (ts.map (shT d)) = rightB v l t ts := by
  have h' := h.moved hv ht hd
  constructor
  · unfold faultV
    rw [look_sh h h' (early_sh d _)]
  · unfold rightB
    rw [List.length_map, look_sh h h' (by rw [← hts]; exact kept_sh d ts)]
end Go.Proofs.YteefkijmodcijaaDoor.Feas

import Derived.Test.YteclpblfleakhaaDoorPkPlanProg

namespace Go.Proofs.YteclpblfleakhaaDoor.Price
open Go.RowKit Go.Proofs.YteclpblfleakhaaDoor.Order Go.Proofs.YteclpblfleakhaaDoor.Place Go.Proofs.YteclpblfleakhaaDoor.Route Go.Proofs.YteclpblfleakhaaDoor.When Go.Proofs.YteclpblfleakhaaDoor.Load Go.Proofs.YteclpblfleakhaaDoor.Feas Go.Proofs.YteclpblfleakhaaDoor.Ins Go.Proofs.YteclpblfleakhaaDoor.Cheap Go.Proofs.YteclpblfleakhaaDoor.Plan
set_option linter.unusedVariables false
def later (v : Vh) (e : Int) : Vh := ⟨v.hx, v.hy, v.cp, v.st, e⟩
section
variable {v : Vh} {e : Int} {l : List (Int × Int)} {t : List Rq}
theorem later_chk (h1 : v.en ≤ e) (h2 : e ≤ 1048576) (h : v.chk = 0) : (later v e).chk = 0 := by
 unfold Vh.chk at h ⊢
 rw [Order.veh_iff] at h ⊢
 obtain ⟨a, b, c, d⟩ := h
 exact ⟨a, b, c, by show v.st ≤ e; omega, h2⟩
theorem wrong_chk (h : wrongV v l t = 0) : v.chk = 0 := by
 unfold wrongV at h
 split at h
 · omega
 · omega
theorem later_wrong (h1 : v.en ≤ e) (h2 : e ≤ 1048576) (h : wrongV v l t = 0) : wrongV (later v e) l t = 0 := by
 have hc := wrong_chk h
 have hc' := later_chk h1 h2 hc
 unfold wrongV at h ⊢
 rw [if_neg (by omega)] at h
 rw [if_neg (by omega)]
 exact h
theorem err_parts (h : errT v l t = 0) : wrongV v l t = 0 ∧ okT v l t = true := by
 unfold errT at h
 split at h
 · omega
 · split at h
   · exact ⟨by omega, by assumption⟩
   · omega
theorem later_err (h1 : v.en ≤ e) (h2 : e ≤ 1048576) (h : errT v l t = 0) : errT (later v e) l t = 0 ∧ homeT (later v e) l t = homeT v l t := by
 obtain ⟨a, b⟩ := err_parts h
 have a' := later_wrong h1 h2 a
 have b' : okT (later v e) l t = true := by
  unfold okT at b ⊢
  simp only [Bool.and_eq_true, decide_eq_true_eq] at b ⊢
  refine ⟨b.1, ?_⟩
  have : endT (later v e) l t = endT v l t := rfl
  rw [this]
  show _ ≤ e
  omega
 have he : errT (later v e) l t = 0 := by
  unfold errT
  rw [if_neg (by omega), if_pos b']
 refine ⟨he, ?_⟩
 unfold homeT
 rw [if_pos he, if_pos h]
 rfl
theorem later_fit (h1 : v.en ≤ e) (h2 : e ≤ 1048576) (h : fitE v l t = 0) : fitE (later v e) l t = 0 := by
 have hc : v.chk = 0 := by
  unfold fitE at h
  split at h
  · omega
  · omega
 have hc' := later_chk h1 h2 hc
 unfold fitE at h ⊢
 rw [if_neg (by omega)] at h
 rw [if_neg (by omega)]
 exact h
theorem later_ok (h1 : v.en ≤ e) (h2 : e ≤ 1048576) (h : okF v l t = true) : okF (later v e) l t = true := by
 obtain ⟨hd, he, hf⟩ := ok_dr h
 exact ok_of ⟨later_chk h1 h2 hd.hv, hd.ht, hd.hl, hd.hn, hd.hr⟩ (later_err h1 h2 he).1 (later_fit h1 h2 hf)
theorem later_rise {r i j : Int} (h1 : v.en ≤ e) (h2 : e ≤ 1048576) (h : riseE v l t r i j = 0) : riseE (later v e) l t r i j = 0 ∧ riseV (later v e) l t r i j = riseV v l t r i j := by
 obtain ⟨a, b, c⟩ := riseE_zero h
 obtain ⟨d1, d2, d3, d4, d5⟩ := withE_zero a
 have hw : withE (later v e) l t r i j = 0 := withE_ok d1 (later_err h1 h2 d2).1 (by omega) d4
 have hr : riseE (later v e) l t r i j = 0 := by
  rw [riseE_err hw (later_fit h1 h2 b)]
  exact (later_err h1 h2 c).1
 refine ⟨hr, ?_⟩
 rw [riseV_ok hr, riseV_ok h, (later_err h1 h2 c).2, (later_err h1 h2 d2).2]
theorem ways_of {r : Int} {ps : List (Int × Int)} {i j : Int} (h : (i, j) ∈ ps) (hr : riseE v l t r i j = 0) : (⟨i, j, riseV v l t r i j⟩ : Wy) ∈ waysP v l t r ps := by
 unfold waysP
 exact List.mem_filterMap.2 ⟨(i, j), h, wayI_yes (y := (i, j)) hr⟩
theorem later_ways {r : Int} {ps : List (Int × Int)} {y : Wy} (h1 : v.en ≤ e) (h2 : e ≤ 1048576) (h : y ∈ waysP v l t r ps) : y ∈ waysP (later v e) l t r ps := by
 obtain ⟨a, b, c⟩ := waysP_mem h
 obtain ⟨d, f⟩ := later_rise h1 h2 b
 have := ways_of a d
 rw [f, ← c] at this
 exact this
end
theorem leastQ_le : ∀ {ys : List (Int × Wy)} {y : Int × Wy}, y ∈ ys → ∃ b, leastQ ys = some b ∧ b.2.n ≤ y.2.n := by
 have key : ∀ (zs : List (Int × Wy)) (a : Int × Wy), (zs.foldl lessQ a).2.n ≤ a.2.n ∧ ∀ z ∈ zs, (zs.foldl lessQ a).2.n ≤ z.2.n := by
  intro zs
  induction zs with
  | nil => intro a; exact ⟨Int.le_refl _, fun z hz => by simp at hz⟩
  | cons z zs ih =>
   intro a
   obtain ⟨h1, h2⟩ := ih (lessQ a z)
   have h3 : (lessQ a z).2.n ≤ a.2.n ∧ (lessQ a z).2.n ≤ z.2.n := by
    unfold lessQ
    split <;> omega
   refine ⟨by rw [List.foldl_cons]; omega, fun x hx => ?_⟩
   rw [List.foldl_cons]
   rcases List.mem_cons.1 hx with rfl | hx
   · omega
   · exact h2 x hx
 intro ys y h
 cases ys with
 | nil => simp at h
 | cons x xs =>
  obtain ⟨h1, h2⟩ := key xs x
  refine ⟨xs.foldl lessQ x, rfl, ?_⟩
  rcases List.mem_cons.1 h with rfl | h
  · exact h1
  · exact h2 y h
theorem brute_le {S : St} {r : Int} {y : Int × Wy} (h : y ∈ waysS S r) : bruteN S r ≤ y.2.n := by
 obtain ⟨b, h1, h2⟩ := leastQ_le h
 rw [brute_yes h1]
 exact h2
theorem waysA_of {S : St} {r : Int} {y : Int × Wy} {i : Nat} {v : Vh} {l : List (Int × Int)} (h1 : y.1 = i) (hv : S.vs[i]? = some v) (hl : S.rows[i]? = some l) (hy : y.2 ∈ waysP v l S.t r (pairsL l.length)) : ∀ {k : Nat}, i < k → y ∈ waysA S r k
 | 0, h => by omega
 | k + 1, h => by
  show y ∈ waysA S r k ++ waysK S r k
  by_cases e : i = k
  · subst e
    refine List.mem_append.2 (.inr ?_)
    rw [waysK_at hv hl]
    exact List.mem_map.2 ⟨y.2, hy, by rw [← h1]⟩
  · exact List.mem_append.2 (.inl (waysA_of h1 hv hl hy (by omega)))
theorem waysS_parts {S : St} {r : Int} {y : Int × Wy} (h : y ∈ waysS S r) : mayS S = true ∧ clearS S r = true ∧ ∃ (i : Nat) (v : Vh) (l : List (Int × Int)), y.1 = i ∧ S.vs[i]? = some v ∧ S.rows[i]? = some l ∧ y.2 ∈ waysP v l S.t r (pairsL l.length) := by
 refine ⟨?_, ?_, waysS_mem h⟩
 · cases hm : mayS S
   · rw [ways_no hm] at h; simp at h
   · rfl
 · cases hm : clearS S r
   · rw [ways_out hm] at h; simp at h
   · rfl
theorem waysS_of {S : St} {r : Int} {y : Int × Wy} (hm : mayS S = true) (hc : clearS S r = true) {i : Nat} {v : Vh} {l : List (Int × Int)} (h1 : y.1 = i) (hv : S.vs[i]? = some v) (hl : S.rows[i]? = some l) (hy : y.2 ∈ waysP v l S.t r (pairsL l.length)) : y ∈ waysS S r := by
 rw [ways_yes hm hc]
 exact waysA_of h1 hv hl hy (List.getElem?_eq_some_iff.1 hv).1
theorem brute_sub {S T : St} {r : Int} (h : ∀ y ∈ waysS S r, y ∈ waysS T r) (hb : bruteN S r ≠ 4294967296) : bruteN T r ≤ bruteN S r := by
 cases hl : leastQ (waysS S r) with
 | none => exact absurd (brute_no hl) hb
 | some y =>
  rw [brute_yes hl]
  exact brute_le (h y (leastQ_mem hl))
def Longer (vs us : List Vh) : Prop := us.length = vs.length ∧ ∀ (i : Nat) v, vs[i]? = some v → ∃ e, v.en ≤ e ∧ e ≤ 1048576 ∧ us[i]? = some (later v e)
theorem may_longer {S : St} {us : List Vh} (h : Longer S.vs us) (hm : mayS S = true) : mayS { S with vs := us } = true := by
 obtain ⟨h1, h2, h3⟩ := mayS_iff.1 hm
 refine mayS_iff.2 ⟨by show 1 ≤ us.length ∧ us.length ≤ 4; rw [h.1]; exact h1, by show S.rows.length = us.length; rw [h.1]; exact h2, fun i u l hu hl => ?_⟩
 have hi : i < S.vs.length := by rw [← h.1]; exact (List.getElem?_eq_some_iff.1 hu).1
 have hv : S.vs[i]? = some S.vs[i] := List.getElem?_eq_getElem hi
 obtain ⟨e, e1, e2, e3⟩ := h.2 i _ hv
 have : us[i]? = some u := hu
 rw [this] at e3
 cases e3
 obtain ⟨f1, f2⟩ := h3 i _ l hv hl
 exact ⟨later_ok e1 e2 f1, f2⟩
theorem brute_longer {S : St} {us : List Vh} (h : Longer S.vs us) {r : Int} (hb : bruteN S r ≠ 4294967296) : bruteN { S with vs := us } r ≤ bruteN S r :=
 brute_sub (fun y hy => by
  obtain ⟨hm, hc, i, v, l, a, hv, hl, hw⟩ := waysS_parts hy
  obtain ⟨e, e1, e2, e3⟩ := h.2 i v hv
  exact waysS_of (S := { S with vs := us }) (may_longer h hm) hc a e3 hl (later_ways e1 e2 hw)) hb
def plusV (S : St) (v : Vh) : St := { S with vs := S.vs ++ [v], rows := S.rows ++ [[]] }
theorem may_plus {S : St} {v : Vh} (hk : S.vs.length ≤ 3) (hv : okF v [] S.t = true) (hm : mayS S = true) : mayS (plusV S v) = true := by
 obtain ⟨h1, h2, h3⟩ := mayS_iff.1 hm
 refine mayS_iff.2 ⟨by simp [plusV]; omega, by simp [plusV, h2], fun i u l hu hl => ?_⟩
 replace hu : (S.vs ++ [v])[i]? = some u := hu
 replace hl : (S.rows ++ [[]])[i]? = some l := hl
 show _ ∧ offB l ((S.rows ++ [[]]).take i) = true
 by_cases hi : i < S.vs.length
 · rw [List.getElem?_append_left hi] at hu
   rw [List.getElem?_append_left (by omega)] at hl
   obtain ⟨f1, f2⟩ := h3 i u l hu hl
   refine ⟨f1, ?_⟩
   rw [List.take_append_of_le_length (by omega)]
   exact f2
 · have hi2 : i = S.vs.length := by
    have := (List.getElem?_eq_some_iff.1 hu).1
    simp at this
    omega
   subst hi2
   simp at hu
   rw [← h2] at hl
   simp at hl
   subst hu
   subst hl
   exact ⟨hv, by simp [offB]⟩
theorem clear_plus {S : St} {v : Vh} {r : Int} (h : clearS S r = true) : clearS (plusV S v) r = true := by
 unfold clearS at h ⊢
 simp only [Bool.and_eq_true, decide_eq_true_eq] at h ⊢
 refine ⟨h.1, where_neg.2 fun l hl => ?_⟩
 rcases List.mem_append.1 (show l ∈ S.rows ++ [[]] from hl) with h1 | h1
 · exact where_neg.1 h.2 l h1
 · simp at h1
   subst h1
   rfl
theorem brute_plus {S : St} {v : Vh} {r : Int} (hk : S.vs.length ≤ 3) (hv : okF v [] S.t = true) (hb : bruteN S r ≠ 4294967296) : bruteN (plusV S v) r ≤ bruteN S r :=
 brute_sub (fun y hy => by
  obtain ⟨hm, hc, i, u, l, a, hu, hl, hw⟩ := waysS_parts hy
  refine waysS_of (S := plusV S v) (may_plus hk hv hm) (clear_plus hc) a ?_ ?_ hw
  · show (S.vs ++ [v])[i]? = _
    rw [List.getElem?_append_left (List.getElem?_eq_some_iff.1 hu).1]
    exact hu
  · show (S.rows ++ [[]])[i]? = _
    rw [List.getElem?_append_left (List.getElem?_eq_some_iff.1 hl).1]
    exact hl) hb
theorem ok_empty {v : Vh} {l : List (Int × Int)} {t : List Rq} (h : okF v l t = true) (he : errT v [] t = 0) (hf : fitE v [] t = 0) : okF v [] t = true := by
 obtain ⟨hd, -, -⟩ := ok_dr h
 exact ok_of ⟨hd.hv, hd.ht, rfl, by simp, fun s hs => by simp at hs⟩ he hf
theorem place_put {S : St} (h : Ok S) {r : Int} (he : priceE S r = 0) :
 (leastQ (waysS S r)).isSome = true ∧ ∃ (i : Nat) (v : Vh) (l : List (Int × Int)), (leastV S r).1 = i ∧ S.vs[i]? = some v ∧ S.rows[i]? = some l ∧ mayW l r (leastV S r).2.i (leastV S r).2.j = true ∧ (leastV S r).2.n = priceN S r ∧
  putS S r = { S with rows := S.rows.set i (moreL l r (leastV S r).2.i (leastV S r).2.j) } := by
 have hl := least_price h r
 rw [if_pos he] at hl
 obtain ⟨i, v, l, m, hp⟩ := put_at h he
 have hw : wayAt S r (priceI S r) = bestW v l S.t r := by rw [hp.idx, wayAt_at hp.vat hp.lat]
 have hv : leastV S r = (priceI S r, bestW v l S.t r) := by unfold leastV; rw [hl, hw]; rfl
 refine ⟨by rw [hl]; rfl, i, v, l, ?_, hp.vat, hp.lat, ?_, ?_, ?_⟩
 · rw [hv]; exact hp.idx
 · rw [hv]; exact hp.may
 · rw [hv]; exact hp.rise.symm
 · rw [hv, hp.put, hp.row]
theorem place_no {S : St} (h : Ok S) {r : Int} (he : priceE S r ≠ 0) : leastQ (waysS S r) = none ∧ putS S r = S ∧ bruteN S r = 4294967296 := by
 have hl := least_price h r
 rw [if_neg he] at hl
 exact ⟨hl, putS_no he, brute_no hl⟩
theorem brute_iff {S : St} (h : Ok S) {r : Int} : bruteN S r = 4294967296 ↔ priceE S r ≠ 0 := by
 constructor
 · intro hb he
   obtain ⟨i, v, l, m, hp⟩ := put_at h he
   rw [brute_price h, if_pos he, hp.rise] at hb
   obtain ⟨h1, h2⟩ := ways_some hp.best
   obtain ⟨p, y, q, e, e2, -, -⟩ := least_some (ways_small _ _ _ _ _) h1
   rw [← h2, e2] at hb
   have hy : y ∈ waysP v l S.t r (pairsL l.length) := by rw [e]; simp
   rw [(waysP_mem hy).2.2] at hb
   have := riseV_bd v l S.t r y.i y.j
   omega
 · intro he
   exact (place_no h he).2.2
theorem pairs_le {S : St} (h : Ok S) {r : Int} (hc : clearS S r = true) {i : Nat} {v : Vh} {l : List (Int × Int)} (hv : S.vs[i]? = some v) (hl : S.rows[i]? = some l) {a b : Int} (hab : (a, b) ∈ pairsL l.length) (h0 : riseE v l S.t r a b = 0) : bruteN S r ≤ riseV v l S.t r a b :=
 brute_le (y := ((i : Int), ⟨a, b, riseV v l S.t r a b⟩)) (waysS_of (ok_may h) hc rfl hv hl (ways_of hab h0))
theorem ok_alone {v : Vh} {l : List (Int × Int)} {t : List Rq} (h : okF v l t = true) : okF v [] t = true := by
 obtain ⟨hd, -, -⟩ := ok_dr h
 obtain ⟨he, hf⟩ := empty_right hd.hv hd.ht
 exact ok_empty h he hf
end Go.Proofs.YteclpblfleakhaaDoor.Price

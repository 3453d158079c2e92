import Derived.Test.YtfoflfeaegfnnaaPkUp
import Derived.Test.YtfoflfeaegfnnaaPkWhenMild
import Derived.Test.YtfoflfeaegfnnaaPkSlackVis
import Derived.Test.YtfoflfeaegfnnaaPkWhenTimes
import Derived.Lib.MinMax
import Derived.LoopN

/-
  Where nothing is wrong: numbers are small, and what is not pushed goes as package sched says. No program is spoken of here.
-/
namespace Go.Proofs.Ytfoflfeaegfnnaa.Slack
open Go.Proofs.Ytfoflfeaegfnnaa.Order Go.Proofs.Ytfoflfeaegfnnaa.Place Go.Proofs.Ytfoflfeaegfnnaa.Window Go.Proofs.Ytfoflfeaegfnnaa.When
set_option linter.unusedVariables false

def Okv (x : Vi) : Prop := 0 ≤ x.we ∧ x.we ≤ x.wl ∧ x.wl ≤ 1048576 ∧ 0 ≤ x.sv ∧ x.sv ≤ 1000
theorem okv_of {t : List Rq} (ht : ∀ q ∈ t, q.chk = 0) {s : Int × Int} {x : Vi} (h : visO t s = some x) : Okv x := by
  obtain ⟨q, hq, _, _, _, hk⟩ := visO_some h
  have hc := ht q (List.mem_of_getElem? hq)
  unfold Rq.chk at hc
  obtain ⟨_, ⟨h1, h2⟩, _, h4, h5⟩ := (Order.chk_iff ..).1 hc
  have h1 := (Window.okB_iff _ _).1 h1
  have h2 := (Window.okB_iff _ _).1 h2
  rcases hk with ⟨_, rfl⟩ | ⟨_, rfl⟩
  · exact ⟨by show 0 ≤ q.pe; omega, by show q.pe ≤ q.pl; omega, by show q.pl ≤ _; omega, h4, h5⟩
  · exact ⟨by show 0 ≤ q.de; omega, by show q.de ≤ q.dl; omega, by show q.dl ≤ _; omega, h4, h5⟩
theorem wait_okv {x : Vi} (h : Okv x) (n : Int) : waitB x.we x.wl n = decide (n ≤ x.wl) := by
  obtain ⟨h1, h2, h3, _⟩ := h
  have : okB x.we x.wl = true := by simp [okB]; omega
  unfold waitB hasB
  rw [this, Bool.true_and, Bool.eq_iff_iff]
  simp
  omega
theorem wait_okvV {x : Vi} (h : Okv x) {n : Int} (hn : n ≤ x.wl) : waitV x.we x.wl n = max n x.we := wait_yes (by rw [wait_okv h, decide_eq_true hn])
theorem allB_plain : ∀ {xs : List Vi} {a : Sp}, (∀ x ∈ xs, Okv x) → allB a xs = okBs a (plainP xs) ∧ (okBs a (plainP xs) = true → endA a xs = endB a (plainP xs) ∧ tmsL (stepsL a xs) = rowB a (plainP xs))
  | [], a, _ => ⟨rfl, fun _ => ⟨rfl, rfl⟩⟩
  | x :: xs, a, hx => by
    have h1 := hx x (List.mem_cons_self ..)
    have e0 : beB a x 0 = max (arV a x) x.we := by simp [beB]
    have e1 : allB a (x :: xs) = (decide (arV a x ≤ x.wl) && allB (goV a x) xs) := by
      unfold allB
      rw [stepsL, List.all_cons]
      rw [show good (a, x) = decide (arV a x ≤ x.wl) from wait_okv h1 _]
    have e2 : okBs a (plainP (x :: xs)) = (decide (arV a x ≤ x.wl) && okBs (goB a x 0) (plainP xs)) := by
      show (decide (beB a x 0 ≤ x.wl) && _) = _
      rw [e0]
      congr 1
      have := h1.2.1
      by_cases h : arV a x ≤ x.wl
      · rw [decide_eq_true h, decide_eq_true (by omega)]
      · rw [decide_eq_false h, decide_eq_false (by omega)]
    rw [e1, e2]
    by_cases hk : arV a x ≤ x.wl
    · have hb : beV a x = beB a x 0 := by rw [e0]; exact wait_okvV h1 hk
      have hg : goV a x = goB a x 0 := by unfold goV goB; rw [hb]
      have ht : tmV a x = tmB a x 0 := by unfold tmV tmB; rw [hb]
      obtain ⟨i1, i2⟩ := allB_plain (xs := xs) (a := goB a x 0) fun z hz => hx z (List.mem_cons_of_mem _ hz)
      rw [decide_eq_true hk, Bool.true_and, Bool.true_and, hg]
      refine ⟨i1, fun h => ?_⟩
      obtain ⟨j1, j2⟩ := i2 h
      constructor
      · show endA (goV a x) xs = endB (goB a x 0) (plainP xs)
        rw [hg]; exact j1
      · show tmV a x :: tmsL (stepsL (goV a x) xs) = tmB a x 0 :: rowB (goB a x 0) (plainP xs)
        rw [ht, hg, j2]
    · rw [decide_eq_false hk]
      exact ⟨rfl, fun h => by cases h⟩

/-- Nothing is wrong. -/
structure Fine0 (v : Vh) (l : List (Int × Int)) (t : List Rq) : Prop where
  veh : v.chk = 0
  req : ∀ q ∈ t, q.chk = 0
  vis : ∀ s ∈ l, ∃ x, visO t s = some x
  okv : ∀ x ∈ visL t l, Okv x
theorem fine0_of {v : Vh} {l : List (Int × Int)} {t : List Rq} (h : wrongV v l t = 0) : Fine0 v l t := by
  obtain ⟨h1, h2, _, h4⟩ := wrong_bits v l t h
  refine ⟨h1, h2, h4, fun x hx => ?_⟩
  obtain ⟨s, hs, rfl⟩ := List.mem_map.1 hx
  obtain ⟨x, hx⟩ := h4 s hs
  rw [(vis_some hx).1]
  exact okv_of h2 hx
theorem home_okv {v : Vh} (h : v.chk = 0) : Okv (homeV v) := by
  have := veh_bd h
  unfold homeV Okv
  simp only
  omega
theorem errT_zero {v : Vh} {l : List (Int × Int)} {t : List Rq} : errT v l t = 0 ↔ wrongV v l t = 0 ∧ okT v l t = true := by
  unfold errT
  constructor
  · intro h
    by_cases h0 : wrongV v l t = 0
    · rw [if_neg (by simpa using h0)] at h
      cases hk : okT v l t
      · rw [hk] at h; simp at h
      · exact ⟨h0, rfl⟩
    · rw [if_pos h0] at h
      exact absurd h h0
  · rintro ⟨h1, h2⟩
    rw [if_neg (by simpa using h1), h2]
    rfl
theorem okT_fromB {v : Vh} {l : List (Int × Int)} {t : List Rq} (hw : wrongV v l t = 0) {i by_ : Int} (h : by_ = 0 ∨ i < 0 ∨ (l.length : Int) ≤ i) : fromB v l t i by_ = okT v l t := by
  have hf := fine0_of hw
  have hp : pairs (visL t l) i by_ = plainP (visL t l) := pairs_plain (by simpa [visL] using h)
  obtain ⟨e1, e2⟩ := allB_plain (a := sp0 v) hf.okv
  unfold fromB okT
  rw [hp, ← e1]
  cases hb : allB (sp0 v) (visL t l)
  · rfl
  · rw [hb] at e1
    obtain ⟨e3, _⟩ := e2 e1.symm
    unfold endT
    rw [e3]
theorem fromE_no {v : Vh} {l : List (Int × Int)} {t : List Rq} {i by_ : Int} (h : by_ = 0 ∨ i < 0 ∨ (l.length : Int) ≤ i) : fromE v l t i by_ = errT v l t := by
  by_cases hw : wrongV v l t = 0
  · rw [fromE_ok hw, okT_fromB hw h]
    unfold errT
    simp [hw]
  · rw [fromE_wrong hw]
    unfold errT
    rw [if_pos hw]
theorem from_no {v : Vh} {l : List (Int × Int)} {t : List Rq} {i by_ : Int} (h : by_ = 0 ∨ i < 0 ∨ (l.length : Int) ≤ i) : fromT v l t i by_ = timesL v l t ∧ fromH v l t i by_ = homeT v l t := by
  unfold fromT fromH timesL homeT
  rw [fromE_no h]
  by_cases he : errT v l t = 0
  · rw [if_pos he, if_pos he, if_pos he, if_pos he]
    obtain ⟨hw, hk⟩ := errT_zero.1 he
    have hf := fine0_of hw
    have hp : pairs (visL t l) i by_ = plainP (visL t l) := pairs_plain (by simpa [visL] using h)
    obtain ⟨e1, e2⟩ := allB_plain (a := sp0 v) hf.okv
    unfold okT at hk
    rw [Bool.and_eq_true] at hk
    rw [hk.1] at e1
    obtain ⟨e3, e4⟩ := e2 e1.symm
    rw [hp]
    exact ⟨e4.symm, by unfold endT; rw [e3]⟩
  · rw [if_neg he, if_neg he, if_neg he, if_neg he]
    exact ⟨rfl, rfl⟩
theorem inTime_zero {v : Vh} {l : List (Int × Int)} {t : List Rq} (h : errT v l t = 0) : inTime (homeV v) v.en (sp0 v) (plainP (visL t l)) := by
  obtain ⟨hw, hk⟩ := errT_zero.1 h
  have h1 := okT_fromB hw (i := -1) (by_ := 0) (.inl rfl)
  rw [hk] at h1
  have h2 := fromB_iff.1 h1
  rwa [pairs_plain (.inl rfl)] at h2
theorem feL_drop {h : Vi} {en : Int} : ∀ {xs : List Vi} (k : Nat), feL h en xs → feL h en (xs.drop k)
  | [], k, _ => by simp [feL]
  | x :: xs, 0, hf => hf
  | x :: xs, k + 1, hf => by simpa using feL_drop k hf.2
theorem feL_hd {h : Vi} {en : Int} {xs : List Vi} (hf : feL h en xs) (hx : ∀ x ∈ xs, Okv x) (he : 0 ≤ en ∧ en ≤ 1048576) : 0 ≤ hdL en (latL h en xs) ∧ hdL en (latL h en xs) ≤ 1048576 := by
  cases xs with
  | nil => exact he
  | cons x xs =>
    have h1 := hx x (List.mem_cons_self ..)
    have h2 := hf.1 (hdL en (latL h en (x :: xs))) rfl
    simp only [latL, hdL_head] at h2 ⊢
    have h2 : x.we ≤ _ := h2
    obtain ⟨a1, a2, a3, _⟩ := h1
    constructor
    · omega
    · omega
/-- The latest Begins are no great numbers. -/
theorem lat_bd {v : Vh} {l : List (Int × Int)} {t : List Rq} (h : errT v l t = 0) (k : Nat) : 0 ≤ hdL v.en (latL (homeV v) v.en ((visL t l).drop k)) ∧ hdL v.en (latL (homeV v) v.en ((visL t l).drop k)) ≤ 1048576 := by
  have hf := fine0_of (errT_zero.1 h).1
  have hv := veh_bd hf.veh
  exact feL_hd (feL_drop k ((inTime_iff _ _ _ _).1 (inTime_zero h)).2) (fun x hx => hf.okv x (List.mem_of_mem_drop hx)) ⟨by omega, by omega⟩
theorem wy_bd (x y : Vi) : 0 ≤ wy x y ∧ wy x y ≤ 2046 := distV_bd _ _
/-- Along a route they rise. -/
theorem lat_end {h : Vi} {en : Int} : ∀ {xs : List Vi}, (∀ x ∈ xs, Okv x) → hdL en (latL h en xs) ≤ en
  | [], _ => Int.le_refl _
  | x :: xs, hx => by
    have ih := lat_end (h := h) (en := en) (xs := xs) fun z hz => hx z (List.mem_cons_of_mem _ hz)
    have h1 := hx x (List.mem_cons_self ..)
    have h2 := wy_bd x (nextV h xs)
    simp only [latL, hdL_head]
    obtain ⟨_, _, _, a4, _⟩ := h1
    omega

end Go.Proofs.Ytfoflfeaegfnnaa.Slack

/-
  A push, stop by stop. No program is spoken of here.
-/
namespace Go.Proofs.Ytfoflfeaegfnnaa.Slack
open Go.Proofs.Ytfoflfeaegfnnaa.Order Go.Proofs.Ytfoflfeaegfnnaa.Place Go.Proofs.Ytfoflfeaegfnnaa.Window Go.Proofs.Ytfoflfeaegfnnaa.When
set_option linter.unusedVariables false

theorem rowB_take : ∀ (a : Sp) (ys : List (Vi × Int)) (k : Nat), (rowB a ys).take k = rowB a (ys.take k)
  | a, [], k => by simp [rowB]
  | a, y :: ys, 0 => rfl
  | a, y :: ys, k + 1 => by simp [rowB, rowB_take (goB a y.1 y.2) ys k]
theorem okBs_less {a : Sp} {ys : List (Vi × Int)} {k : Nat} (h : okBs a (ys.take k) = false) : okBs a ys = false := by
  rw [← List.take_append_drop k ys, okBs_append, h]
  rfl
theorem take_succ_at {α : Type} {L : List α} {k : Nat} {q : α} (h : L[k]? = some q) : L.take (k + 1) = L.take k ++ [q] := by rw [List.take_add_one, h]; rfl
theorem drop_at {α : Type} {L : List α} {k : Nat} {q : α} (h : L[k]? = some q) : L.drop k = q :: L.drop (k + 1) := by
  obtain ⟨hk, rfl⟩ := List.getElem?_eq_some_iff.1 h
  exact List.drop_eq_getElem_cons hk
theorem visN_okv {v : Vh} {l : List (Int × Int)} {t : List Rq} (hf : Fine0 v l t) (k : Nat) : Okv (visN v t l k) := by
  unfold visN
  cases h : (visL t l)[k]? with
  | none => exact home_okv hf.veh
  | some x => exact hf.okv x (List.mem_of_getElem? h)
theorem pairs_at {v : Vh} {l : List (Int × Int)} {t : List Rq} {i by_ : Int} {k : Nat} (hk : k < l.length) : (pairs (visL t l) i by_)[k]? = some (visN v t l k, bmp i by_ k) := by
  have h : (visL t l)[k]? = some (visN v t l k) := by
    have : k < (visL t l).length := by simpa [visL] using hk
    unfold visN
    rw [List.getElem?_eq_getElem this]
    rfl
  exact pairs_get h

/-- The row when k stops have been gone. -/
def rowK (v : Vh) (l : List (Int × Int)) (t : List Rq) (i by_ : Int) (T0 : List Tm) (k : Nat) : List Tm := rowB (sp0 v) ((pairs (visL t l) i by_).take k) ++ T0.drop k
def endK (v : Vh) (l : List (Int × Int)) (t : List Rq) (i by_ : Int) (k : Nat) : Sp := endB (sp0 v) ((pairs (visL t l) i by_).take k)
def okK (v : Vh) (l : List (Int × Int)) (t : List Rq) (i by_ : Int) (k : Nat) : Bool := okBs (sp0 v) ((pairs (visL t l) i by_).take k)
def T0 (v : Vh) (l : List (Int × Int)) (t : List Rq) : List Tm := timesL v l t ++ [⟨homeT v l t, 0, 0⟩]
theorem endK_next {v : Vh} {l : List (Int × Int)} {t : List Rq} {i by_ : Int} {k : Nat} (hk : k < l.length) : endK v l t i by_ (k + 1) = goB (endK v l t i by_ k) (visN v t l k) (bmp i by_ k) := by
  unfold endK
  rw [take_succ_at (pairs_at (v := v) hk), endB_snoc]
theorem okK_next {v : Vh} {l : List (Int × Int)} {t : List Rq} {i by_ : Int} {k : Nat} (hk : k < l.length) : okK v l t i by_ (k + 1) = (okK v l t i by_ k && decide (beB (endK v l t i by_ k) (visN v t l k) (bmp i by_ k) ≤ (visN v t l k).wl)) := by
  unfold okK endK
  rw [take_succ_at (pairs_at (v := v) hk), okBs_snoc]
theorem okK_all {v : Vh} {l : List (Int × Int)} {t : List Rq} {i by_ : Int} : fromB v l t i by_ = (okK v l t i by_ l.length && decide (arV (endK v l t i by_ l.length) (homeV v) ≤ v.en)) := by
  unfold fromB okK endK
  rw [List.take_of_length_le (by rw [pairs_length]; simp [visL])]
theorem okK_bad {v : Vh} {l : List (Int × Int)} {t : List Rq} {i by_ : Int} {k : Nat} (h : okK v l t i by_ k = false) : fromB v l t i by_ = false := by
  unfold fromB
  rw [okBs_less h]
  rfl
theorem rowK_len {v : Vh} {l : List (Int × Int)} {t : List Rq} {i by_ : Int} {k : Nat} (hk : k ≤ l.length) : (rowB (sp0 v) ((pairs (visL t l) i by_).take k)).length = k := by
  rw [rowB_length, List.length_take, pairs_length]
  simp [visL]
  omega
theorem T0_len {v : Vh} {l : List (Int × Int)} {t : List Rq} (he : errT v l t = 0) : (T0 v l t).length = l.length + 1 := by
  unfold T0 timesL
  rw [if_pos he, List.length_append, rowT_length]
  rfl
theorem times_plain {v : Vh} {l : List (Int × Int)} {t : List Rq} (he : errT v l t = 0) : timesL v l t = rowB (sp0 v) (plainP (visL t l)) := by
  have h := (from_no (v := v) (l := l) (t := t) (i := -1) (by_ := 0) (.inl rfl)).1
  rw [← h]
  unfold fromT
  rw [if_pos (by rw [fromE_no (.inl rfl)]; exact he), pairs_plain (.inl rfl)]
theorem take_plain {l : List (Int × Int)} {t : List Rq} {i : Nat} {by_ : Int} {k : Nat} (hk : k ≤ i) : (pairs (visL t l) i by_).take k = (plainP (visL t l)).take k := by
  apply List.ext_getElem?
  intro j
  rw [List.getElem?_take, List.getElem?_take]
  split
  · rename_i hj
    simp only [pairs, plainP, List.getElem?_mapIdx, List.getElem?_map]
    cases (visL t l)[j]? with
    | none => rfl
    | some x => simp [bmp_no (i := i) (by_ := by_) (k := j) (by omega)]
  · rfl
theorem okK_plain {v : Vh} {l : List (Int × Int)} {t : List Rq} (he : errT v l t = 0) {i : Nat} {by_ : Int} {k : Nat} (hk : k ≤ i) : okK v l t i by_ k = true := by
  unfold okK
  rw [take_plain hk]
  cases h : okBs (sp0 v) ((plainP (visL t l)).take k)
  · have h1 := okBs_less h
    have h2 := (inTime_zero he).1
    rw [h1] at h2
    cases h2
  · rfl
theorem T0_at {v : Vh} {l : List (Int × Int)} {t : List Rq} (he : errT v l t = 0) {i : Nat} {by_ : Int} (hi : i < l.length) : (T0 v l t)[i]? = some (tmB (endK v l t i by_ i) (visN v t l i) 0) ∧ (T0 v l t).take i = rowB (sp0 v) ((pairs (visL t l) i by_).take i) := by
  have hl : (timesL v l t).length = l.length := by unfold timesL; rw [if_pos he, rowT_length]
  have h1 : (timesL v l t).take i = rowB (sp0 v) ((pairs (visL t l) i by_).take i) := by rw [times_plain he, rowB_take, take_plain (Nat.le_refl _)]
  have h2 : (timesL v l t).take (i + 1) = rowB (sp0 v) ((pairs (visL t l) i by_).take i) ++ [tmB (endK v l t i by_ i) (visN v t l i) 0] := by
    rw [times_plain he, rowB_take]
    have hp : (plainP (visL t l))[i]? = some (visN v t l i, 0) := by
      have : i < (visL t l).length := by simpa [visL] using hi
      unfold plainP visN
      rw [List.getElem?_map, List.getElem?_eq_getElem this]
      rfl
    rw [take_succ_at hp, rowB_snoc, ← take_plain (by_ := by_) (Nat.le_refl i)]
    rfl
  constructor
  · unfold T0
    rw [List.getElem?_append_left (by omega)]
    have h3 : ((timesL v l t).take (i + 1))[i]? = (timesL v l t)[i]? := by rw [List.getElem?_take, if_pos (by omega)]
    rw [← h3, h2, List.getElem?_append_right (by rw [rowK_len (by omega)]; omega), rowK_len (by omega), Nat.sub_self]
    rfl
  · unfold T0
    rw [List.take_append_of_le_length (by omega), h1]
/-- The pushed stop. -/
theorem rowK_start {v : Vh} {l : List (Int × Int)} {t : List Rq} (he : errT v l t = 0) {i : Nat} {by_ : Int} (hi : i < l.length) : (T0 v l t).set i (tmB (endK v l t i by_ i) (visN v t l i) by_) = rowK v l t i by_ (T0 v l t) (i + 1) := by
  obtain ⟨h1, h2⟩ := T0_at he (by_ := by_) hi
  have h3 : (T0 v l t).set i (tmB (endK v l t i by_ i) (visN v t l i) by_) = (T0 v l t).take i ++ tmB (endK v l t i by_ i) (visN v t l i) by_ :: (T0 v l t).drop (i + 1) := by
    have hlt := (List.getElem?_eq_some_iff.1 h1).1
    conv => lhs; rw [← List.take_append_drop i (T0 v l t), drop_at h1]
    rw [List.set_append_right _ _ (by simp; omega)]
    simp [Nat.min_eq_left (Nat.le_of_lt hlt)]
  rw [h3, h2]
  unfold rowK
  rw [take_succ_at (pairs_at (v := v) hi), rowB_snoc]
  have : bmp (i : Int) by_ i = by_ := by simp [bmp]
  rw [this]
  simp [endK]
theorem rowK_at {v : Vh} {l : List (Int × Int)} {t : List Rq} (he : errT v l t = 0) {i by_ : Int} {k : Nat} (hk : k ≤ l.length) : ∃ q, (rowK v l t i by_ (T0 v l t) k)[k]? = some q := by
  have : k < (rowK v l t i by_ (T0 v l t) k).length := by
    unfold rowK
    rw [List.length_append, rowK_len hk, List.length_drop, T0_len he]
    omega
  exact ⟨_, List.getElem?_eq_getElem this⟩
theorem rowK_set {v : Vh} {l : List (Int × Int)} {t : List Rq} (he : errT v l t = 0) {i by_ : Int} {k : Nat} (hk : k ≤ l.length) (x : Tm) : (rowK v l t i by_ (T0 v l t) k).set k x = rowB (sp0 v) ((pairs (visL t l) i by_).take k) ++ x :: (T0 v l t).drop (k + 1) := by
  unfold rowK
  have h1 : (T0 v l t)[k]? = some ((T0 v l t)[k]'(by rw [T0_len he]; omega)) := List.getElem?_eq_getElem _
  rw [drop_at h1, List.set_append_right _ _ (by rw [rowK_len hk]; exact Nat.le_refl _), rowK_len hk, Nat.sub_self]
  rfl
theorem rowK_next {v : Vh} {l : List (Int × Int)} {t : List Rq} (he : errT v l t = 0) {i by_ : Int} {k : Nat} (hk : k < l.length) : (rowK v l t i by_ (T0 v l t) k).set k (tmB (endK v l t i by_ k) (visN v t l k) (bmp i by_ k)) = rowK v l t i by_ (T0 v l t) (k + 1) := by
  rw [rowK_set he (Nat.le_of_lt hk)]
  unfold rowK
  rw [take_succ_at (pairs_at (v := v) hk), rowB_snoc]
  simp [endK]
/-- What the stop ahead left: when, and where. -/
theorem rowK_last {v : Vh} {l : List (Int × Int)} {t : List Rq} {i by_ : Int} {T : List Tm} {k : Nat} (hk : k < l.length) : ∃ q, (rowK v l t i by_ T (k + 1))[k]? = some q ∧ q.lv = (endK v l t i by_ (k + 1)).now ∧ ∀ y : Vi, arV (endK v l t i by_ (k + 1)) y = q.lv + wy (visN v t l k) y := by
  refine ⟨tmB (endK v l t i by_ k) (visN v t l k) (bmp i by_ k), ?_, ?_, fun y => ?_⟩
  · unfold rowK
    rw [List.getElem?_append_left (by rw [rowK_len (by omega)]; omega), take_succ_at (pairs_at (v := v) hk), rowB_snoc, List.getElem?_append_right (by rw [rowK_len (by omega)]; omega), rowK_len (by omega), Nat.sub_self]
    rfl
  · rw [endK_next hk]; rfl
  · rw [endK_next hk]; rfl
theorem endK_bd {v : Vh} {l : List (Int × Int)} {t : List Rq} (hf : Fine0 v l t) {i by_ : Int} (hb : 0 ≤ by_) {k : Nat} (hk : k < l.length) (h : okK v l t i by_ (k + 1) = true) : 0 ≤ (endK v l t i by_ (k + 1)).now ∧ (endK v l t i by_ (k + 1)).now ≤ 1049576 := by
  rw [okK_next hk, Bool.and_eq_true, decide_eq_true_eq] at h
  rw [endK_next hk]
  have hx := visN_okv hf k
  generalize visN v t l k = x at *
  have h2 : (goB (endK v l t i by_ k) x (bmp i by_ k)).now = beB (endK v l t i by_ k) x (bmp i by_ k) + x.sv := rfl
  have h3 : beB (endK v l t i by_ k) x (bmp i by_ k) = max (arV (endK v l t i by_ k) x) x.we + bmp i by_ k := rfl
  have h4 : 0 ≤ bmp i by_ k := by unfold bmp; split <;> omega
  obtain ⟨a1, a2, a3, a4, a5⟩ := hx
  rw [h2]
  omega

end Go.Proofs.Ytfoflfeaegfnnaa.Slack

/-
  The contract of package slack's least, of two numbers; of the visit that a method value gives.
-/
namespace Go.Proofs.Ytfoflfeaegfnnaa.Slack
open Go.RowKit Go.Sort Go.Proofs.Ytfoflfeaegfnnaa.Mem Go.Proofs.Ytfoflfeaegfnnaa.Route Go.Proofs.Ytfoflfeaegfnnaa.When Go.Proofs.Ytfoflfeaegfnnaa.Tail
set_option linter.unusedVariables false

set_option maxRecDepth 100000 in
set_option maxHeartbeats 1000000 in
theorem least_any (n m : Int) (g o c : Nat) (w : World) (hm : w.cell? ⟨g, o, none⟩ = some (.int .i64 m)) :
    Calls Try.prog 40 #[.int .i64 n, .slice (some ⟨g, o, none⟩) 1 c] w fun e w' => e = .returned (.int .i64 (min n m)) ∧ Below w.heap.size w w' := by
  go_enter Try.func40, Try.ntmps40
  go_wp2
  refine wp_loop_rounds 2 ?_
  rw [rounds_succ]
  go_wp2
  rw [rounds_succ]
  go_wp2
  go_ret
  exact ⟨rfl, Below.refl _ _⟩

end Go.Proofs.Ytfoflfeaegfnnaa.Slack

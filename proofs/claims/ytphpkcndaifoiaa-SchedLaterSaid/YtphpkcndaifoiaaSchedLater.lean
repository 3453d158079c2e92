/-
  SchedLater returns true, whatever the draft, the three bytes and memory are. No condition.
-/
import Derived.Test.YtphpkcndaifoiaaWhenWorks2
import Derived.Test.YtphpkcndaifoiaaWhenRefSpent
import Derived.Test.YtphpkcndaifoiaaWhenParts
import Derived.Test.YtphpkcndaifoiaaWhenOpen
import Derived.Test.YtphpkcndaifoiaaWhenLater
import Derived.IntWalk
namespace Go.Proofs.Ytphpkcndaifoiaa.schedLater
open Go.ChangeShapes Go.WideShapes Go.ChangeAt Go.RowKit Go.Sort Go.Proofs.Ytphpkcndaifoiaa.Mem Go.Proofs.Ytphpkcndaifoiaa.Route Go.Proofs.Ytphpkcndaifoiaa.When Go.Proofs.Ytphpkcndaifoiaa.Later
set_option linter.unusedVariables false

/-- What stays from the head on. -/
structure LaterAt (w0 : World) (nb n5 : Nat) (b0 b1 b2 : Int) (v : Vh) (vo vr : Value) (l : List (Int × Int)) (t : List Rq) (W : World) : Prop where
  by_ : At W nb 58 #[.int .u8 b0, .int .u8 b1, .int .u8 b2]
  veh : At W n5 30 #[.int .i64 v.hx, .int .i64 v.hy, .int .i64 v.cp, .int .i64 v.st, .int .i64 v.en]
  row : Row W.heap.size W vo l
  rqs : Rqs W.heap.size W vr t
  below : Below w0.heap.size w0 W
theorem LaterAt.on {w0 : World} {nb n5 : Nat} {b0 b1 b2 : Int} {v : Vh} {vo vr : Value} {l : List (Int × Int)} {t : List Rq} {W W' : World} (h : LaterAt w0 nb n5 b0 b1 b2 v vo vr l t W) (hb : Below W.heap.size W W') : LaterAt w0 nb n5 b0 b1 b2 v vo vr l t W' :=
  ⟨h.by_.keep hb h.by_.inside, h.veh.keep hb h.veh.inside, h.row.on hb, h.rqs.on hb, h.below.trans (hb.mono h.below.size)⟩
theorem ownsEmpty10 {W : World} {base n : Nat} {e : TypeId} (hn : n = W.heap.size) (hb : base ≤ n) : (W.alloc (.cells #[] e)).ownsRow base e 10 (.slice (some ⟨n, 0, none⟩) 0 0) 0 [] := by
  subst hn
  exact ⟨rfl, .inr ⟨W.heap.size, 0, #[], rfl, hb, heap_alloc_new W _, Nat.le_refl _, Nat.zero_le _, rfl, rfl⟩⟩
theorem rqs_plain {B : Nat} {W : World} {v : Value} {l : List Rq} (h : Rqs B W v l) : Plain v := by
  obtain ⟨x, cap, rfl, h1, h2, h0, _⟩ := h
  cases x with
  | none =>
    have := h0 rfl
    simp at this
    exact .inl (by simp [this])
  | some b => exact .inr ⟨b, _, _, rfl⟩
theorem rqV_len {t : List Rq} : ∀ r ∈ t.map rqV, r.length = 10 := fun r hr => by obtain ⟨s, _, rfl⟩ := List.mem_map.1 hr; rfl
theorem flatQ_length (t : List Rq) : (flatQ t).length = t.length * 10 := by
  induction t with
  | nil => rfl
  | cons q t ih =>
    have : flatQ (q :: t) = rqV q ++ flatQ t := by simp [flatQ]
    rw [this, List.length_append, ih]
    simp [rqV]
    omega
theorem rqs_flat {B : Nat} {W : World} {b : Addr} {N cap : Nat} {l : List Rq} (h : Rqs B W (.slice (some b) N cap) l) : ∀ j u, (flatQ l)[j]? = some u → W.cell? (b.add j) = some u := by
  intro j u hj
  obtain ⟨i, k, r, e, hr, hu⟩ := flat_of (m := 10) (by decide) rqV_len j u hj
  obtain ⟨g, o, hx, hg, hc⟩ := RowB.row h hr
  cases hx
  have := hc k u hu
  rw [add_at, e, show o + (i * 10 + k) = o + i * 10 + k by omega]
  exact this
theorem flatQ_one {t : List Rq} : ∀ u ∈ flatQ t, u.oneCell' = true := by
  intro u hu
  simp only [flatQ, List.mem_flatten, List.mem_map] at hu
  obtain ⟨r, ⟨s, _, rfl⟩, hu⟩ := hu
  simp only [rqV, List.mem_cons, List.not_mem_nil, or_false] at hu
  rcases hu with rfl | rfl | rfl | rfl | rfl | rfl | rfl | rfl | rfl | rfl <;> rfl
theorem flatQ_get {L : List Rq} {k : Nat} {q : Rq} (h : L[k]? = some q) (j : Nat) (hj : j < 10) : (flatQ L)[k * 10 + j]? = (rqV q)[j]? := by
  have hl : (rqV q)[j]? = some ((rqV q)[j]'(by simp [rqV]; omega)) := List.getElem?_eq_getElem _
  rw [hl]
  exact flat_get (m := 10) rqV_len k (rqV q) (by rw [List.getElem?_map, h]; rfl) j _ hl
theorem flatQ_set {L : List Rq} {k : Nat} {q : Rq} (h : L[k]? = some q) (x : Int) : (flatQ L).set (k * 10 + 6) (.int .i64 x) = flatQ (L.set k { q with de := x }) := by
  have hk := (List.getElem?_eq_some_iff.1 h).1
  apply List.ext_getElem?
  intro i
  rw [List.getElem?_set, flatQ_length]
  have hset : (L.set k { q with de := x })[i / 10]? = if i / 10 = k then some { q with de := x } else L[i / 10]? := by
    rw [List.getElem?_set]
    by_cases e : k = i / 10
    · subst e; simp [hk]
    · rw [if_neg e, if_neg (fun e' => e e'.symm)]
  by_cases hi : i < L.length * 10
  · obtain ⟨q0, hq0⟩ : ∃ q0, L[i / 10]? = some q0 := ⟨L[i / 10]'(by omega), List.getElem?_eq_getElem _⟩
    have e10 : i = i / 10 * 10 + i % 10 := by omega
    have hm : i % 10 < 10 := Nat.mod_lt _ (by decide)
    by_cases e : i / 10 = k
    · rw [if_pos e] at hset
      have r1 := flatQ_get hset (i % 10) hm
      rw [← e10] at r1
      rw [r1]
      rw [e] at hq0
      rw [h] at hq0
      cases hq0
      have r2 := flatQ_get (show L[i / 10]? = some q by rw [e]; exact h) (i % 10) hm
      rw [← e10] at r2
      by_cases h6 : k * 10 + 6 = i
      · rw [if_pos h6, if_pos (by omega)]
        have : i % 10 = 6 := by omega
        rw [this]
        rfl
      · rw [if_neg h6, r2]
        have : i % 10 ≠ 6 := by omega
        generalize i % 10 = m at *
        match m, hm, this with
        | 0, _, _ | 1, _, _ | 2, _, _ | 3, _, _ | 4, _, _ | 5, _, _ | 7, _, _ | 8, _, _ | 9, _, _ => rfl
        | m + 10, hm, _ => omega
    · rw [if_neg e, hq0] at hset
      have r1 := flatQ_get hset (i % 10) hm
      have r2 := flatQ_get hq0 (i % 10) hm
      rw [← e10] at r1 r2
      rw [if_neg (by omega), r1, r2]
  · rw [if_neg (by omega), List.getElem?_eq_none (by rw [flatQ_length]; omega), List.getElem?_eq_none (by rw [flatQ_length, List.length_set]; omega)]
/-- The first k requests later, the others as they were. -/
def mixL (x : Int) (t : List Rq) (k : Nat) : List Rq := (t.take k).map (lateQ x) ++ t.drop k
theorem mixL_get {x : Int} {t : List Rq} {k : Nat} {q : Rq} (h : t[k]? = some q) : (mixL x t k)[k]? = some q := by
  have hk := (List.getElem?_eq_some_iff.1 h).1
  unfold mixL
  rw [List.getElem?_append_right (by rw [List.length_map, List.length_take]; omega), List.length_map, List.length_take, List.getElem?_drop]
  rw [show k + (k - min k t.length) = k by omega]
  exact h
theorem mixL_next {x : Int} {t : List Rq} {k : Nat} {q : Rq} (h : t[k]? = some q) : (mixL x t k).set k (lateQ x q) = mixL x t (k + 1) := by
  have hk := (List.getElem?_eq_some_iff.1 h).1
  have hd : t.drop k = q :: t.drop (k + 1) := by
    rw [List.drop_eq_getElem_cons hk]
    congr 1
    exact (List.getElem?_eq_some_iff.1 h).2
  unfold mixL
  rw [hd, List.set_append_right _ _ (by rw [List.length_map, List.length_take]; omega), List.length_map, List.length_take, show k - min k t.length = 0 by omega, List.set_cons_zero, show t.take (k + 1) = t.take k ++ [q] by rw [List.take_add_one, h]; rfl, List.map_append, List.append_assoc]
  rfl
theorem mixL_zero (x : Int) (t : List Rq) : mixL x t 0 = t := by unfold mixL; simp
theorem mixL_all (x : Int) (t : List Rq) : mixL x t t.length = t.map (lateQ x) := by unfold mixL; simp
theorem mixL_length (x : Int) (t : List Rq) (k : Nat) : (mixL x t k).length = t.length := by unfold mixL; simp; omega
theorem le_get {v w : Vh} {l : List (Int × Int)} {t u : List Rq} (hE : errT w l u = 0 → errT v l t = 0 ∧ ∀ (k : Nat) p q, (rowT v l t)[k]? = some p → (rowT w l u)[k]? = some q → Le p q) :
    ∀ (i : Nat) q, (timesL w l u)[i]? = some q → errT v l t = 0 ∧ ∃ p, (timesL v l t)[i]? = some p ∧ Le p q := by
  intro i q hq
  by_cases h : errT w l u = 0
  · obtain ⟨h1, h2⟩ := hE h
    rw [timesL_ok h] at hq
    rw [timesL_ok h1]
    have hi := (List.getElem?_eq_some_iff.1 hq).1
    rw [rowT_length] at hi
    obtain ⟨p, hp⟩ : ∃ p, (rowT v l t)[i]? = some p := ⟨(rowT v l t)[i]'(by rw [rowT_length]; exact hi), List.getElem?_eq_getElem _⟩
    exact ⟨h1, p, hp, h2 i p q hp hq⟩
  · rw [timesL_no h] at hq
    simp at hq

set_option maxRecDepth 100000 in
set_option maxHeartbeats 2500000 in
theorem walk (xb : Option Addr) (Nb cb : Nat) (bs : List Int) (a1 a2 a3 : Int) (hby : ∀ x ∈ bs, 0 ≤ x ∧ x < 256) (ha : 0 ≤ a1 ∧ a1 < 256) (hb : 0 ≤ a2 ∧ a2 < 256) (b0 b1 b2 : Int) (hb0 : 0 ≤ b0 ∧ b0 < 256) (hb1 : 0 ≤ b1 ∧ b1 < 256) (hb2 : 0 ≤ b2 ∧ b2 < 256) (w : World)
    (hD : RowB w.heap.size w (.slice xb Nb cb) 1 (bs.map byV)) :
    Calls Try.prog 5 #[.agg #[.slice xb Nb cb, .int .u8 a1, .int .u8 a2, .int .i64 a3], .agg #[.int .u8 b0, .int .u8 b1, .int .u8 b2]] w fun e w' => e = .returned (.bool true) ∧ Below w.heap.size w w' := by
  obtain ⟨iq, hi, hz0, hz1, hz2⟩ := info_parts info_request
  obtain ⟨wA, hwA⟩ : ∃ wA, (w.alloc (.cells #[.slice xb Nb cb, .int .u8 a1, .int .u8 a2, .int .i64 a3] 24)).alloc (.cells #[.int .u8 b0, .int .u8 b1, .int .u8 b2] 58) = wA := ⟨_, rfl⟩
  have hbA : Below w.heap.size w wA := by rw [← hwA]; exact ((Below.refl _ _).alloc (Nat.le_refl _) _).alloc (by simp) _
  have hX0 : At wA w.heap.size 24 #[.slice xb Nb cb, .int .u8 a1, .int .u8 a2, .int .i64 a3] := by rw [← hwA]; exact (At.new _ _ _).alloc _
  have hY0 : At wA (w.heap.size + 1) 58 #[.int .u8 b0, .int .u8 b1, .int .u8 b2] := by rw [← hwA]; exact At.new_ _ _ _ (by simp)
  have hD0 := Lib.hid (RowB.on hD hbA)
  have hby' := Lib.hid hby
  have hwA' := Lib.hid hwA
  obtain ⟨c01, c02⟩ := hb0
  obtain ⟨c11, c12⟩ := hb1
  obtain ⟨c21, c22⟩ := hb2
  clear hD hby hwA
  go_enter Try.func5, Try.ntmps5
  go_wp2_with fail
  rw [hwA'.out]
  refine (works_any _).mono ?_
  rintro e w1 ⟨rfl, hbw⟩
  have hX1 := hX0.keep hbw hX0.inside
  have hY1 := Lib.hid (hY0.keep hbw hY0.inside)
  have hbB := Lib.hid (hbA.trans (hbw.mono hbA.size))
  have hp := parts_any xb Nb cb bs a1 a2 a3 _ (RowB.on hD0.out hbw) hby'.out ha hb
  have x0 := hX1.cell 0
  have x1 := hX1.cell 1
  have x2 := hX1.cell 2
  have x3 := hX1.cell 3
  have hxs := hX1.inside
  simp at x0 x1 x2 x3
  clear hX0 hX1 hY0 hbA hbw hD0 hby' ha hb hwA'
  go_wp2_with fail
  refine hp.mono ?_
  clear hp x0 x1 x2 x3 hxs
  rintro e w2 ⟨⟨v, uo, ur, l, t, rfl, hv, hro, hsm, hlo, hqr, hlr, hch⟩, hbw⟩
  obtain ⟨xo, No, co, rfl, hNo, _, hoc1, hoc2⟩ := hro.opened
  obtain ⟨xr, Nr, cr, rfl, hNr0, hrc1, hrc2, _⟩ := hqr.opened
  unfold maxLen at hoc2 hrc2
  have hNr := Lib.hid hNr0
  have hNr6 : Nr ≤ 6 := by rw [← hNr0]; exact hlr
  have hvb := veh_bd hv
  obtain ⟨s1, s2, s3, s4⟩ := hvb
  have hl6 : Hid (l.length ≤ 1000000) := Lib.hid (by omega)
  have hnm : Hid (Nums l) := Lib.hid hsm.nums
  have hch' := Lib.hid hch
  have hbV : Below w2.heap.size w2 (w2.alloc (.cells #[.int .i64 v.hx, .int .i64 v.hy, .int .i64 v.cp, .int .i64 v.st, .int .i64 v.en] 30)) := (Below.refl _ _).alloc (Nat.le_refl _) _
  obtain ⟨n5, hn5⟩ : ∃ n, w2.heap.size = n := ⟨_, rfl⟩
  have hS3 : Hid (LaterAt w (w.heap.size + 1) n5 b0 b1 b2 v (.slice xo No co) (.slice xr Nr cr) l t (w2.alloc (.cells #[.int .i64 v.hx, .int .i64 v.hy, .int .i64 v.cp, .int .i64 v.st, .int .i64 v.en] 30))) := Lib.hid
    ⟨(hY1.out.keep hbw hY1.out.inside).alloc _, by rw [← hn5]; exact At.new _ _ _, hro.on hbV, hqr.on hbV, (hbB.out.trans (hbw.mono hbB.out.size)).trans (hbV.mono (hbB.out.trans (hbw.mono hbB.out.size)).size)⟩
  have hn5' := Lib.hid hn5
  obtain ⟨nb, hnb⟩ : ∃ n, w.heap.size + 1 = n := ⟨_, rfl⟩
  rw [hnb] at hS3
  have hnb' := Lib.hid hnb
  have f1 : Hid (errT ⟨v.hx, v.hy, v.cp, min (v.st + b0) v.en, v.en⟩ l t = 0 → errT v l t = 0 ∧ homeT v l t ≤ homeT ⟨v.hx, v.hy, v.cp, min (v.st + b0) v.en, v.en⟩ l t) := Lib.hid (fun h => by
    obtain ⟨h1, h2, h3⟩ := start_later (v := v) (w := ⟨v.hx, v.hy, v.cp, min (v.st + b0) v.en, v.en⟩) rfl rfl rfl (by dsimp only; omega) (by rw [hv, veh_late hv c01]) h
    exact ⟨h1, by rw [homeT_ok h1, homeT_ok h]; exact h3⟩)
  have f2 : Hid (∀ (i : Nat) q, (timesL ⟨v.hx, v.hy, v.cp, min (v.st + b0) v.en, v.en⟩ l t)[i]? = some q → errT v l t = 0 ∧ ∃ p, (timesL v l t)[i]? = some p ∧ Le p q) := Lib.hid (le_get fun h => by
    obtain ⟨h1, h2, h3⟩ := start_later (v := v) (w := ⟨v.hx, v.hy, v.cp, min (v.st + b0) v.en, v.en⟩) rfl rfl rfl (by dsimp only; omega) (by rw [hv, veh_late hv c01]) h
    exact ⟨h1, h2⟩)
  have f3 : Hid (errT v l t = 0 → errT ⟨v.hx, v.hy, v.cp, v.st, min (v.en + b1) 1048576⟩ l t = 0 ∧ timesL ⟨v.hx, v.hy, v.cp, v.st, min (v.en + b1) 1048576⟩ l t = timesL v l t ∧ homeT ⟨v.hx, v.hy, v.cp, v.st, min (v.en + b1) 1048576⟩ l t = homeT v l t) := Lib.hid (fun h => shift_longer (v := v) (u := ⟨v.hx, v.hy, v.cp, v.st, min (v.en + b1) 1048576⟩) rfl rfl rfl (by dsimp only; omega) (by rw [hv, veh_long hv c11]) h)
  obtain ⟨X, hX, hX0⟩ : ∃ X : Int, b2 % 9 = X ∧ 0 ≤ X ∧ X ≤ 8 := ⟨_, rfl, by omega, by omega⟩
  obtain ⟨hX1, hX2⟩ := hX0
  have f4 : Hid (errT v l (t.map (lateQ X)) = 0 → errT v l t = 0 ∧ homeT v l t ≤ homeT v l (t.map (lateQ X))) := Lib.hid (fun h => by
    obtain ⟨h1, h2, h3⟩ := window_later hX1 hch h
    exact ⟨h1, by rw [homeT_ok h1, homeT_ok h]; exact h3⟩)
  have f5 : Hid (∀ (i : Nat) q, (timesL v l (t.map (lateQ X)))[i]? = some q → errT v l t = 0 ∧ ∃ p, (timesL v l t)[i]? = some p ∧ Le p q) := Lib.hid (le_get fun h => by
    obtain ⟨h1, h2, h3⟩ := window_later hX1 hch h
    exact ⟨h1, h2⟩)
  have hdeb : Hid (∀ q ∈ t, 0 ≤ q.de ∧ q.de ≤ q.dl ∧ q.dl ≤ 1048576) := Lib.hid (fun q hq => de_bd (hch q hq))
  obtain ⟨E1, hE1⟩ : ∃ E, errT v l t = E := ⟨_, rfl⟩
  obtain ⟨H1, hH1⟩ : ∃ E, homeT v l t = E := ⟨_, rfl⟩
  obtain ⟨T1, hT1⟩ : ∃ E, timesL v l t = E := ⟨_, rfl⟩
  obtain ⟨E2, hE2⟩ : ∃ E, errT ⟨v.hx, v.hy, v.cp, min (v.st + b0) v.en, v.en⟩ l t = E := ⟨_, rfl⟩
  obtain ⟨H2, hH2⟩ : ∃ E, homeT ⟨v.hx, v.hy, v.cp, min (v.st + b0) v.en, v.en⟩ l t = E := ⟨_, rfl⟩
  obtain ⟨T2, hT2⟩ : ∃ E, timesL ⟨v.hx, v.hy, v.cp, min (v.st + b0) v.en, v.en⟩ l t = E := ⟨_, rfl⟩
  obtain ⟨E4, hE4⟩ : ∃ E, errT ⟨v.hx, v.hy, v.cp, v.st, min (v.en + b1) 1048576⟩ l t = E := ⟨_, rfl⟩
  obtain ⟨H4, hH4⟩ : ∃ E, homeT ⟨v.hx, v.hy, v.cp, v.st, min (v.en + b1) 1048576⟩ l t = E := ⟨_, rfl⟩
  obtain ⟨T4, hT4⟩ : ∃ E, timesL ⟨v.hx, v.hy, v.cp, v.st, min (v.en + b1) 1048576⟩ l t = E := ⟨_, rfl⟩
  obtain ⟨E3, hE3⟩ : ∃ E, errT v l (t.map (lateQ X)) = E := ⟨_, rfl⟩
  obtain ⟨H3, hH3⟩ : ∃ E, homeT v l (t.map (lateQ X)) = E := ⟨_, rfl⟩
  obtain ⟨T3, hT3⟩ : ∃ E, timesL v l (t.map (lateQ X)) = E := ⟨_, rfl⟩
  rw [hE1, hH1, hE2, hH2] at f1
  rw [hE1, hT1, hT2] at f2
  rw [hE1, hH1, hT1, hE4, hH4, hT4] at f3
  rw [hE1, hH1, hE3, hH3] at f4
  rw [hE1, hT1, hT3] at f5
  have cA : Hid (∀ W, LaterAt w nb n5 b0 b1 b2 v (.slice xo No co) (.slice xr Nr cr) l t W → Calls Try.prog 8 #[.agg #[.int .i64 v.hx, .int .i64 v.hy, .int .i64 v.cp, .int .i64 v.st, .int .i64 v.en], .slice xo No co, .slice xr Nr cr] W fun e w' => (∃ x1 N1 c1, e = .returned (.tuple #[.slice x1 N1 c1, .int .i64 H1, .int .i64 E1]) ∧ Tms w'.heap.size w' (.slice x1 N1 c1) T1) ∧ Below W.heap.size W w') := Lib.hid (fun W h => by
    have := Times_any v _ _ l t hl6.out hnm.out W h.row h.rqs
    rw [hE1, hH1, hT1] at this
    exact this.mono fun e w' ⟨⟨u, e1, e2⟩, e3⟩ => by
      obtain ⟨x1, N1, c1, rfl, _⟩ := e2.opened
      exact ⟨⟨x1, N1, c1, e1, e2⟩, e3⟩)
  have cB : Hid (∀ W, LaterAt w nb n5 b0 b1 b2 v (.slice xo No co) (.slice xr Nr cr) l t W → Calls Try.prog 8 #[.agg #[.int .i64 v.hx, .int .i64 v.hy, .int .i64 v.cp, .int .i64 (min (v.st + b0) v.en), .int .i64 v.en], .slice xo No co, .slice xr Nr cr] W fun e w' => (∃ x1 N1 c1, e = .returned (.tuple #[.slice x1 N1 c1, .int .i64 H2, .int .i64 E2]) ∧ Tms w'.heap.size w' (.slice x1 N1 c1) T2) ∧ Below W.heap.size W w') := Lib.hid (fun W h => by
    have := Times_any ⟨v.hx, v.hy, v.cp, min (v.st + b0) v.en, v.en⟩ _ _ l t hl6.out hnm.out W h.row h.rqs
    rw [hE2, hH2, hT2] at this
    exact this.mono fun e w' ⟨⟨u, e1, e2⟩, e3⟩ => by
      obtain ⟨x1, N1, c1, rfl, _⟩ := e2.opened
      exact ⟨⟨x1, N1, c1, e1, e2⟩, e3⟩)
  have cC : Hid (∀ W, LaterAt w nb n5 b0 b1 b2 v (.slice xo No co) (.slice xr Nr cr) l t W → Calls Try.prog 8 #[.agg #[.int .i64 v.hx, .int .i64 v.hy, .int .i64 v.cp, .int .i64 v.st, .int .i64 (min (v.en + b1) 1048576)], .slice xo No co, .slice xr Nr cr] W fun e w' => (∃ x1 N1 c1, e = .returned (.tuple #[.slice x1 N1 c1, .int .i64 H4, .int .i64 E4]) ∧ Tms w'.heap.size w' (.slice x1 N1 c1) T4) ∧ Below W.heap.size W w') := Lib.hid (fun W h => by
    have := Times_any ⟨v.hx, v.hy, v.cp, v.st, min (v.en + b1) 1048576⟩ _ _ l t hl6.out hnm.out W h.row h.rqs
    rw [hE4, hH4, hT4] at this
    exact this.mono fun e w' ⟨⟨u, e1, e2⟩, e3⟩ => by
      obtain ⟨x1, N1, c1, rfl, _⟩ := e2.opened
      exact ⟨⟨x1, N1, c1, e1, e2⟩, e3⟩)
  have cD : Hid (∀ W x2 N2 c2, Row W.heap.size W (.slice xo No co) l → Rqs W.heap.size W (.slice x2 N2 c2) (t.map (lateQ X)) → Calls Try.prog 8 #[.agg #[.int .i64 v.hx, .int .i64 v.hy, .int .i64 v.cp, .int .i64 v.st, .int .i64 v.en], .slice xo No co, .slice x2 N2 c2] W fun e w' => (∃ x1 N1 c1, e = .returned (.tuple #[.slice x1 N1 c1, .int .i64 H3, .int .i64 E3]) ∧ Tms w'.heap.size w' (.slice x1 N1 c1) T3) ∧ Below W.heap.size W w') := Lib.hid (fun W x2 N2 c2 hr hq => by
    have := Times_any v _ _ l (t.map (lateQ X)) hl6.out hnm.out W hr hq
    rw [hE3, hH3, hT3] at this
    exact this.mono fun e w' ⟨⟨u, e1, e2⟩, e3⟩ => by
      obtain ⟨x1, N1, c1, rfl, _⟩ := e2.opened
      exact ⟨⟨x1, N1, c1, e1, e2⟩, e3⟩)
  have hS3' := hS3
  clear hE1 hH1 hT1 hE2 hH2 hT2 hE3 hH3 hT3 hE4 hH4 hT4 hbV hbw hro hqr hsm hlo hlr hch hNr0 hv hn5 hnb hY1 hbB
  go_wp2_with fail
  refine (cA.out _ hS3.out).mono ?_
  rintro e w4 ⟨⟨x1, N1, k1, rfl, hu1⟩, hb4⟩
  have hS4 := Lib.hid (hS3.out.on hb4)
  have hu14 := Lib.hid hu1
  rw [hn5'.out, hnb'.out]
  have hbW : Below w4.heap.size w4 (w4.alloc (.cells #[.int .i64 v.hx, .int .i64 v.hy, .int .i64 v.cp, .int .i64 (min (v.st + b0) v.en), .int .i64 v.en] 30)) := (Below.refl _ _).alloc (Nat.le_refl _) _
  have hS5 := Lib.hid (hS4.out.on hbW)
  have hu15 := Lib.hid (hu14.out.on hbW)
  have v0 := hS4.out.veh.cell 0
  have v1 := hS4.out.veh.cell 1
  have v2 := hS4.out.veh.cell 2
  have v3 := hS4.out.veh.cell 3
  have v4 := hS4.out.veh.cell 4
  have y0 := hS4.out.by_.cell 0
  have hs1 := hS4.out.veh.inside
  have hs2 := hS4.out.by_.inside
  simp at v0 v1 v2 v3 v4 y0
  clear hb4 hu1 hbW hS3 hS3'
  go_wp2_with fail
  refine (cB.out _ hS5.out).mono ?_
  clear v0 v1 v2 v3 v4 y0 hs1 hs2
  rintro e w6 ⟨⟨x2, N2, k2, rfl, hu2⟩, hb6⟩
  have hS6 := Lib.hid (hS5.out.on hb6)
  have hu16 := Lib.hid (hu15.out.on hb6)
  have hu26 := Lib.hid hu2
  obtain ⟨_, _, _, e1, hN1, _, _, _⟩ := hu16.out.opened
  simp only [Value.slice.injEq] at e1
  obtain ⟨rfl, rfl, rfl⟩ := e1
  obtain ⟨_, _, _, e1, hN2, hk21, hk22, _⟩ := hu2.opened
  simp only [Value.slice.injEq] at e1
  obtain ⟨rfl, rfl, rfl⟩ := e1
  unfold maxLen at hk22
  have hN1' := Lib.hid hN1
  have hN2' := Lib.hid hN2
  clear hb6 hu2 hu14 hu15 hS4 hS5 hN1 hN2
  cases z1 : (E1 == 0)
  · cases z2 : (E2 == 0)
    · skip
      have z1' : (E1 != 0) = true := by simpa using z1
      have z2' : (E2 != 0) = true := by simpa using z2
      go_wp2
      go_loopw [15] (fun i wr => ∃ k : Nat, i = .int .i64 k ∧ k ≤ N2 ∧ Below w6.heap.size w6 wr) (fun i _ => N2 - (intOf i).toNat)
      case atStart => exact ⟨0, rfl, Nat.zero_le _, Below.refl _ _⟩
      case round =>
        obtain ⟨k, rfl, hk, hbw⟩ := hrel
        by_cases hlt : k < N2
        · obtain ⟨q, hq⟩ := tm_get hN2'.out hlt
          obtain ⟨hE10, p, hp, hle⟩ := f2.out k q hq
          obtain ⟨g2, o2, rfl, hg2, c0, c1, c2⟩ := Tms.at (hu26.out.on hbw) hq
          obtain ⟨g1, o1, rfl, hg1, d0, d1, d2⟩ := Tms.at (hu16.out.on hbw) hp
          have hk1 : k < N1 := by rw [← hN1'.out]; exact (List.getElem?_eq_some_iff.1 hp).1
          have i1 : decide (q.ar < p.ar) = false := decide_eq_false (by have := hle.1; omega)
          have i2 : decide (q.be < p.be) = false := decide_eq_false (by have := hle.2.1; omega)
          have i3 : decide (q.lv < p.lv) = false := decide_eq_false (by have := hle.2.2; omega)
          have hbw' := Lib.hid hbw
          clear hq hp hle hbw hE10
          go_upto_region 13 with fail
          go_quiet (fail)
          go_wp2
          go_roundw
          case rel => exact ⟨k + 1, by go_num, hlt, Place.below_drewN hbw'.out nq⟩
          case measure => simp [intOf]; omega
        · obtain rfl : k = N2 := by omega
          have hS7 := Lib.hid (hS6.out.on hbw)
          have hu17 := Lib.hid (hu16.out.on hbw)
          clear hbw
          have v0 := hS7.out.veh.cell 0
          have v1 := hS7.out.veh.cell 1
          have v2 := hS7.out.veh.cell 2
          have v3 := hS7.out.veh.cell 3
          have v4 := hS7.out.veh.cell 4
          have y1 := hS7.out.by_.cell 1
          have hs1 := hS7.out.veh.inside
          have hs2 := hS7.out.by_.inside
          simp at v0 v1 v2 v3 v4 y1
          have hbU : Below wr.heap.size wr (wr.alloc (.cells #[.int .i64 v.hx, .int .i64 v.hy, .int .i64 v.cp, .int .i64 v.st, .int .i64 (min (v.en + b1) 1048576)] 30)) := (Below.refl _ _).alloc (Nat.le_refl _) _
          have hS8 := Lib.hid (hS7.out.on hbU)
          have hu18 := Lib.hid (hu17.out.on hbU)
          clear hbU
          go_wp2_with fail
          refine (cC.out _ hS8.out).mono ?_
          clear v0 v1 v2 v3 v4 y1 hs1 hs2
          rintro e w9 ⟨⟨x4, N4, k4, rfl, hu4⟩, hb9⟩
          have hS9 := Lib.hid (hS8.out.on hb9)
          have hu19 := Lib.hid (hu18.out.on hb9)
          clear hb9 hS7 hS8 hu17 hu18
          obtain ⟨w10, hw10⟩ : ∃ w10, w10 = w9 := ⟨_, rfl⟩
          subst hw10
          have hS10 := hS9
          have hu110 := hu19
          clear hu4
          have hRq : Hid (Rqs (w10.alloc (.cells #[] 56)).heap.size (w10.alloc (.cells #[] 56)) (.slice xr Nr cr) t) := Lib.hid (hS10.out.rqs.on ((Below.refl _ _).alloc (Nat.le_refl _) _))
          have hpl := rqs_plain hRq.out
          go_upto_region 23 with (at_builtin; go_loud (refine wpList_append_plain rfl _ _ 26 rfl w10.heap.size 56 iq (.agg #[.int .i64 0, .int .i64 0, .int .i64 0, .int .i64 0, .int .i64 0, .int .i64 0, .int .i64 0, .int .i64 0, .int .i64 0, .int .i64 0]) 10 80 Try.underlying26 hi hz0 hz1 hz2 rfl (by decide) _ _ _ rfl (ownsEmpty10 rfl (Nat.le_refl _)) (.slice xr Nr cr) Nr ⟨_, _, rfl⟩ hpl (flatQ t) rfl (by rw [flatQ_length, hNr.out]) (fun ad c e => by cases e; exact rqs_flat hRq.out) flatQ_one (by unfold maxLen; omega) (by omega) (by simp) ?_; intro v11 w11 hown11 hgrow11; rw [Nat.zero_add, List.nil_append] at hown11; obtain ⟨x11, k11, rfl, hk11a, hk11b⟩ := owns_slice hown11))
          have hB11 : Below w10.heap.size w10 w11 := ((Below.refl _ _).alloc (Nat.le_refl _) _).grown hgrow11 (by simp) (fun r e => by cases e; exact Nat.le_refl _)
          unfold maxLen at hk11a
          have hown11' := Lib.hid hown11
          have hB11' := Lib.hid hB11
          clear hown11 hgrow11 hB11 hpl hRq
          go_wp2
          go_loopw [21] (fun i wz => ∃ k : Nat, i = .int .i64 k ∧ k ≤ Nr ∧ wz.ownsRow w10.heap.size 56 10 (.slice x11 Nr k11) Nr (flatQ (mixL X t k)) ∧ Below w10.heap.size w10 wz) (fun i _ => Nr - (intOf i).toNat)
          case atStart => exact ⟨0, rfl, Nat.zero_le _, by rw [mixL_zero]; exact hown11'.out, hB11'.out⟩
          case round =>
            obtain ⟨k, rfl, hk, hown, hbz⟩ := hrel
            clear hown11' hB11'
            by_cases hlt : k < Nr
            · obtain ⟨q, hq⟩ : ∃ q, t[k]? = some q := ⟨t[k]'(by rw [hNr.out]; exact hlt), List.getElem?_eq_getElem _⟩
              obtain ⟨j1, j2, j3⟩ := hdeb.out q (List.mem_of_getElem? hq)
              obtain ⟨gq, rfl, _⟩ : ∃ gq : Nat, x11 = some ⟨gq, 0, none⟩ ∧ Nr ≤ k11 := by
                rcases owns_parts hown with ⟨_, h0, _⟩ | h0
                · omega
                · exact h0
              have hmg := mixL_get (x := X) hq
              have c6 := hown.cellAt (k * 10 + 6) (by omega)
              have c7 := hown.cellAt (k * 10 + 7) (by omega)
              rw [flatQ_get hmg 6 (by decide)] at c6
              rw [flatQ_get hmg 7 (by decide)] at c7
              replace c6 : wr.cell? ⟨gq, k * 10 + 6, none⟩ = some (.int .i64 q.de) := c6
              replace c7 : wr.cell? ⟨gq, k * 10 + 7, none⟩ = some (.int .i64 q.dl) := c7
              have cf := hown.frozenAt (k * 10 + 6)
              have hy := (hS10.out.on hbz).by_
              have y2 := hy.cell 2
              have hs2 := hy.inside
              simp at y2
              have hgq : gq < wr.heap.size := own_lt hown gq rfl
              have hgb := owns_row hown gq rfl
              have hst := hown.stored (k * 10 + 6) (.int .i64 (min (q.de + X) q.dl))
              rw [flatQ_set hmg] at hst
              have hnx := mixL_next (x := X) hq
              have hst2 : Hid ((wr.setCell ⟨gq, k * 10 + 6, none⟩ (.int .i64 (min (q.de + X) q.dl))).ownsRow w10.heap.size 56 10 (.slice (some ⟨gq, 0, none⟩) Nr k11) Nr (flatQ (mixL X t (k + 1)))) := Lib.hid (by rw [← hnx]; exact hst.1)
              have hb3 : Hid (Below w10.heap.size w10 (wr.setCell ⟨gq, k * 10 + 6, none⟩ (.int .i64 (min (q.de + X) q.dl)))) := Lib.hid (hbz.setCell (by simpa using hgb) _)
              clear hq hmg hown hy hst hnx hbz
              go_upto_region 26 with fail
              go_region
              go_wp2
              go_roundw
              case rel => exact ⟨k + 1, by go_num, hlt, hst2.out, Below.drew hb3.out⟩
              case measure => simp [intOf]; omega
            · obtain rfl : k = Nr := by omega
              have hfull : mixL X t k = t.map (lateQ X) := by rw [← hNr.out]; exact mixL_all X t
              rw [hfull] at hown
              have hq2 : Rqs wr.heap.size wr (.slice x11 k k11) (t.map (lateQ X)) := Rqs.of_owns hown (by rw [List.length_map, hNr.out]) (Nat.le_refl _)
              have hS12 := hS10.out.on hbz
              have hu112 := Lib.hid (hu110.out.on hbz)
              have hc := cD.out wr x11 k k11 hS12.row hq2
              have v0 := hS12.veh.cell 0
              have v1 := hS12.veh.cell 1
              have v2 := hS12.veh.cell 2
              have v3 := hS12.veh.cell 3
              have v4 := hS12.veh.cell 4
              have hs1 := hS12.veh.inside
              simp at v0 v1 v2 v3 v4
              have hS12' := Lib.hid hS12
              clear hfull hown hq2 hbz hS12
              go_wp2_with fail
              refine hc.mono ?_
              clear hc v0 v1 v2 v3 v4 hs1
              rintro e w13 ⟨⟨x3, N3, k3, rfl, hu3⟩, hb13⟩
              have hS13 := Lib.hid (hS12'.out.on hb13)
              have hu113 := Lib.hid (hu112.out.on hb13)
              have hu313 := Lib.hid hu3
              obtain ⟨_, _, _, e1, hN3, hk31, hk32, _⟩ := hu3.opened
              simp only [Value.slice.injEq] at e1
              obtain ⟨rfl, rfl, rfl⟩ := e1
              unfold maxLen at hk32
              have hN3' := Lib.hid hN3
              clear hb13 hu3 hS12' hu112 hN3
              go_wp2
              go_loopw [24] (fun i wz => ∃ j : Nat, i = .int .i64 j ∧ j ≤ N3 ∧ Below w13.heap.size w13 wz) (fun i _ => N3 - (intOf i).toNat)
              case atStart => exact ⟨0, rfl, Nat.zero_le _, Below.refl _ _⟩
              case round =>
                obtain ⟨j, rfl, hj, hbw⟩ := hrel
                by_cases hlt3 : j < N3
                · obtain ⟨q, hq⟩ := tm_get hN3'.out hlt3
                  obtain ⟨hE10, p, hp, hle⟩ := f5.out j q hq
                  exfalso
                  rw [hE10] at z1
                  cases z1
                · obtain rfl : j = N3 := by omega
                  have hBf := Lib.hid (hS13.out.on hbw).below
                  clear hbw
                  cases z3 : (E3 == 0)
                  · have z3' : (E3 != 0) = true := by simpa using z3
                    go_wp2
                    go_ret
                    exact ⟨rfl, hBf.out⟩
                  · have z3' : (E3 != 0) = false := by simpa using z3
                    obtain ⟨y1, y2⟩ := f4.out (by simpa using z3)
                    exfalso
                    rw [y1] at z1
                    cases z1
    · exfalso
      have := (f1.out (by simpa using z2)).1
      rw [this] at z1
      cases z1
  · cases z2 : (E2 == 0)
    · skip
      have z1' : (E1 != 0) = false := by simpa using z1
      have z2' : (E2 != 0) = true := by simpa using z2
      go_wp2
      go_loopw [15] (fun i wr => ∃ k : Nat, i = .int .i64 k ∧ k ≤ N2 ∧ Below w6.heap.size w6 wr) (fun i _ => N2 - (intOf i).toNat)
      case atStart => exact ⟨0, rfl, Nat.zero_le _, Below.refl _ _⟩
      case round =>
        obtain ⟨k, rfl, hk, hbw⟩ := hrel
        by_cases hlt : k < N2
        · obtain ⟨q, hq⟩ := tm_get hN2'.out hlt
          obtain ⟨hE10, p, hp, hle⟩ := f2.out k q hq
          obtain ⟨g2, o2, rfl, hg2, c0, c1, c2⟩ := Tms.at (hu26.out.on hbw) hq
          obtain ⟨g1, o1, rfl, hg1, d0, d1, d2⟩ := Tms.at (hu16.out.on hbw) hp
          have hk1 : k < N1 := by rw [← hN1'.out]; exact (List.getElem?_eq_some_iff.1 hp).1
          have i1 : decide (q.ar < p.ar) = false := decide_eq_false (by have := hle.1; omega)
          have i2 : decide (q.be < p.be) = false := decide_eq_false (by have := hle.2.1; omega)
          have i3 : decide (q.lv < p.lv) = false := decide_eq_false (by have := hle.2.2; omega)
          have hbw' := Lib.hid hbw
          clear hq hp hle hbw hE10
          go_upto_region 13 with fail
          go_quiet (fail)
          go_wp2
          go_roundw
          case rel => exact ⟨k + 1, by go_num, hlt, Place.below_drewN hbw'.out nq⟩
          case measure => simp [intOf]; omega
        · obtain rfl : k = N2 := by omega
          have hS7 := Lib.hid (hS6.out.on hbw)
          have hu17 := Lib.hid (hu16.out.on hbw)
          clear hbw
          have v0 := hS7.out.veh.cell 0
          have v1 := hS7.out.veh.cell 1
          have v2 := hS7.out.veh.cell 2
          have v3 := hS7.out.veh.cell 3
          have v4 := hS7.out.veh.cell 4
          have y1 := hS7.out.by_.cell 1
          have hs1 := hS7.out.veh.inside
          have hs2 := hS7.out.by_.inside
          simp at v0 v1 v2 v3 v4 y1
          have hbU : Below wr.heap.size wr (wr.alloc (.cells #[.int .i64 v.hx, .int .i64 v.hy, .int .i64 v.cp, .int .i64 v.st, .int .i64 (min (v.en + b1) 1048576)] 30)) := (Below.refl _ _).alloc (Nat.le_refl _) _
          have hS8 := Lib.hid (hS7.out.on hbU)
          have hu18 := Lib.hid (hu17.out.on hbU)
          clear hbU
          go_wp2_with fail
          refine (cC.out _ hS8.out).mono ?_
          clear v0 v1 v2 v3 v4 y1 hs1 hs2
          rintro e w9 ⟨⟨x4, N4, k4, rfl, hu4⟩, hb9⟩
          have hS9 := Lib.hid (hS8.out.on hb9)
          have hu19 := Lib.hid (hu18.out.on hb9)
          clear hb9 hS7 hS8 hu17 hu18
          obtain ⟨r1, r2, r3⟩ := f3.out (by simpa using z1)
          rw [r2] at hu4
          have hu49 := Lib.hid hu4
          have hc := Same_any _ _ T1 T1 w9 hu19.out hu49.out
          rw [decide_eq_true rfl] at hc
          have z4 : (E4 != 0) = false := by simpa using r1
          have z5 : (H4 != H1) = false := by simpa using r3
          clear hu4 r1 r2 r3
          go_wp2_with fail
          refine hc.mono ?_
          clear hc
          rintro e w10 ⟨rfl, hb10⟩
          have hS10 := Lib.hid (hS9.out.on hb10)
          have hu110 := Lib.hid (hu19.out.on hb10)
          clear hb10 hu49
          have hRq : Hid (Rqs (w10.alloc (.cells #[] 56)).heap.size (w10.alloc (.cells #[] 56)) (.slice xr Nr cr) t) := Lib.hid (hS10.out.rqs.on ((Below.refl _ _).alloc (Nat.le_refl _) _))
          have hpl := rqs_plain hRq.out
          go_upto_region 23 with (at_builtin; go_loud (refine wpList_append_plain rfl _ _ 26 rfl w10.heap.size 56 iq (.agg #[.int .i64 0, .int .i64 0, .int .i64 0, .int .i64 0, .int .i64 0, .int .i64 0, .int .i64 0, .int .i64 0, .int .i64 0, .int .i64 0]) 10 80 Try.underlying26 hi hz0 hz1 hz2 rfl (by decide) _ _ _ rfl (ownsEmpty10 rfl (Nat.le_refl _)) (.slice xr Nr cr) Nr ⟨_, _, rfl⟩ hpl (flatQ t) rfl (by rw [flatQ_length, hNr.out]) (fun ad c e => by cases e; exact rqs_flat hRq.out) flatQ_one (by unfold maxLen; omega) (by omega) (by simp) ?_; intro v11 w11 hown11 hgrow11; rw [Nat.zero_add, List.nil_append] at hown11; obtain ⟨x11, k11, rfl, hk11a, hk11b⟩ := owns_slice hown11))
          have hB11 : Below w10.heap.size w10 w11 := ((Below.refl _ _).alloc (Nat.le_refl _) _).grown hgrow11 (by simp) (fun r e => by cases e; exact Nat.le_refl _)
          unfold maxLen at hk11a
          have hown11' := Lib.hid hown11
          have hB11' := Lib.hid hB11
          clear hown11 hgrow11 hB11 hpl hRq
          go_wp2
          go_loopw [21] (fun i wz => ∃ k : Nat, i = .int .i64 k ∧ k ≤ Nr ∧ wz.ownsRow w10.heap.size 56 10 (.slice x11 Nr k11) Nr (flatQ (mixL X t k)) ∧ Below w10.heap.size w10 wz) (fun i _ => Nr - (intOf i).toNat)
          case atStart => exact ⟨0, rfl, Nat.zero_le _, by rw [mixL_zero]; exact hown11'.out, hB11'.out⟩
          case round =>
            obtain ⟨k, rfl, hk, hown, hbz⟩ := hrel
            clear hown11' hB11'
            by_cases hlt : k < Nr
            · obtain ⟨q, hq⟩ : ∃ q, t[k]? = some q := ⟨t[k]'(by rw [hNr.out]; exact hlt), List.getElem?_eq_getElem _⟩
              obtain ⟨j1, j2, j3⟩ := hdeb.out q (List.mem_of_getElem? hq)
              obtain ⟨gq, rfl, _⟩ : ∃ gq : Nat, x11 = some ⟨gq, 0, none⟩ ∧ Nr ≤ k11 := by
                rcases owns_parts hown with ⟨_, h0, _⟩ | h0
                · omega
                · exact h0
              have hmg := mixL_get (x := X) hq
              have c6 := hown.cellAt (k * 10 + 6) (by omega)
              have c7 := hown.cellAt (k * 10 + 7) (by omega)
              rw [flatQ_get hmg 6 (by decide)] at c6
              rw [flatQ_get hmg 7 (by decide)] at c7
              replace c6 : wr.cell? ⟨gq, k * 10 + 6, none⟩ = some (.int .i64 q.de) := c6
              replace c7 : wr.cell? ⟨gq, k * 10 + 7, none⟩ = some (.int .i64 q.dl) := c7
              have cf := hown.frozenAt (k * 10 + 6)
              have hy := (hS10.out.on hbz).by_
              have y2 := hy.cell 2
              have hs2 := hy.inside
              simp at y2
              have hgq : gq < wr.heap.size := own_lt hown gq rfl
              have hgb := owns_row hown gq rfl
              have hst := hown.stored (k * 10 + 6) (.int .i64 (min (q.de + X) q.dl))
              rw [flatQ_set hmg] at hst
              have hnx := mixL_next (x := X) hq
              have hst2 : Hid ((wr.setCell ⟨gq, k * 10 + 6, none⟩ (.int .i64 (min (q.de + X) q.dl))).ownsRow w10.heap.size 56 10 (.slice (some ⟨gq, 0, none⟩) Nr k11) Nr (flatQ (mixL X t (k + 1)))) := Lib.hid (by rw [← hnx]; exact hst.1)
              have hb3 : Hid (Below w10.heap.size w10 (wr.setCell ⟨gq, k * 10 + 6, none⟩ (.int .i64 (min (q.de + X) q.dl)))) := Lib.hid (hbz.setCell (by simpa using hgb) _)
              clear hq hmg hown hy hst hnx hbz
              go_upto_region 26 with fail
              go_region
              go_wp2
              go_roundw
              case rel => exact ⟨k + 1, by go_num, hlt, hst2.out, Below.drew hb3.out⟩
              case measure => simp [intOf]; omega
            · obtain rfl : k = Nr := by omega
              have hfull : mixL X t k = t.map (lateQ X) := by rw [← hNr.out]; exact mixL_all X t
              rw [hfull] at hown
              have hq2 : Rqs wr.heap.size wr (.slice x11 k k11) (t.map (lateQ X)) := Rqs.of_owns hown (by rw [List.length_map, hNr.out]) (Nat.le_refl _)
              have hS12 := hS10.out.on hbz
              have hu112 := Lib.hid (hu110.out.on hbz)
              have hc := cD.out wr x11 k k11 hS12.row hq2
              have v0 := hS12.veh.cell 0
              have v1 := hS12.veh.cell 1
              have v2 := hS12.veh.cell 2
              have v3 := hS12.veh.cell 3
              have v4 := hS12.veh.cell 4
              have hs1 := hS12.veh.inside
              simp at v0 v1 v2 v3 v4
              have hS12' := Lib.hid hS12
              clear hfull hown hq2 hbz hS12
              go_wp2_with fail
              refine hc.mono ?_
              clear hc v0 v1 v2 v3 v4 hs1
              rintro e w13 ⟨⟨x3, N3, k3, rfl, hu3⟩, hb13⟩
              have hS13 := Lib.hid (hS12'.out.on hb13)
              have hu113 := Lib.hid (hu112.out.on hb13)
              have hu313 := Lib.hid hu3
              obtain ⟨_, _, _, e1, hN3, hk31, hk32, _⟩ := hu3.opened
              simp only [Value.slice.injEq] at e1
              obtain ⟨rfl, rfl, rfl⟩ := e1
              unfold maxLen at hk32
              have hN3' := Lib.hid hN3
              clear hb13 hu3 hS12' hu112 hN3
              go_wp2
              go_loopw [24] (fun i wz => ∃ j : Nat, i = .int .i64 j ∧ j ≤ N3 ∧ Below w13.heap.size w13 wz) (fun i _ => N3 - (intOf i).toNat)
              case atStart => exact ⟨0, rfl, Nat.zero_le _, Below.refl _ _⟩
              case round =>
                obtain ⟨j, rfl, hj, hbw⟩ := hrel
                by_cases hlt3 : j < N3
                · obtain ⟨q, hq⟩ := tm_get hN3'.out hlt3
                  obtain ⟨hE10, p, hp, hle⟩ := f5.out j q hq
                  obtain ⟨g3, o3, rfl, hg3, c0, c1, c2⟩ := Tms.at (hu313.out.on hbw) hq
                  obtain ⟨g1, o1, eg1, hg1, d0, d1, d2⟩ := Tms.at (hu113.out.on hbw) hp
                  subst eg1
                  have hk1 : j < N1 := by rw [← hN1'.out]; exact (List.getElem?_eq_some_iff.1 hp).1
                  have i1 : decide (q.ar < p.ar) = false := decide_eq_false (by have := hle.1; omega)
                  have i2 : decide (q.be < p.be) = false := decide_eq_false (by have := hle.2.1; omega)
                  have hbw' := Lib.hid hbw
                  clear hq hp hle hbw hE10
                  go_upto_region 31 with fail
                  go_quiet (fail)
                  go_wp2
                  go_roundw
                  case rel => exact ⟨j + 1, by go_num, hlt3, Place.below_drewN hbw'.out nq⟩
                  case measure => simp [intOf]; omega
                · obtain rfl : j = N3 := by omega
                  have hBf := Lib.hid (hS13.out.on hbw).below
                  clear hbw
                  cases z3 : (E3 == 0)
                  · have z3' : (E3 != 0) = true := by simpa using z3
                    go_wp2
                    go_ret
                    exact ⟨rfl, hBf.out⟩
                  · have z3' : (E3 != 0) = false := by simpa using z3
                    obtain ⟨y1, y2⟩ := f4.out (by simpa using z3)
                    have g9 : decide (H1 ≤ H3) = true := decide_eq_true y2
                    clear y1
                    go_wp2
                    go_ret
                    exact ⟨rfl, hBf.out⟩
    · skip
      have z1' : (E1 != 0) = false := by simpa using z1
      have z2' : (E2 != 0) = false := by simpa using z2
      have g0 : decide (H2 < H1) = false := decide_eq_false (by have := (f1.out (by simpa using z2)).2; omega)
      go_wp2
      go_loopw [15] (fun i wr => ∃ k : Nat, i = .int .i64 k ∧ k ≤ N2 ∧ Below w6.heap.size w6 wr) (fun i _ => N2 - (intOf i).toNat)
      case atStart => exact ⟨0, rfl, Nat.zero_le _, Below.refl _ _⟩
      case round =>
        obtain ⟨k, rfl, hk, hbw⟩ := hrel
        by_cases hlt : k < N2
        · obtain ⟨q, hq⟩ := tm_get hN2'.out hlt
          obtain ⟨hE10, p, hp, hle⟩ := f2.out k q hq
          obtain ⟨g2, o2, rfl, hg2, c0, c1, c2⟩ := Tms.at (hu26.out.on hbw) hq
          obtain ⟨g1, o1, rfl, hg1, d0, d1, d2⟩ := Tms.at (hu16.out.on hbw) hp
          have hk1 : k < N1 := by rw [← hN1'.out]; exact (List.getElem?_eq_some_iff.1 hp).1
          have i1 : decide (q.ar < p.ar) = false := decide_eq_false (by have := hle.1; omega)
          have i2 : decide (q.be < p.be) = false := decide_eq_false (by have := hle.2.1; omega)
          have i3 : decide (q.lv < p.lv) = false := decide_eq_false (by have := hle.2.2; omega)
          have hbw' := Lib.hid hbw
          clear hq hp hle hbw hE10
          go_upto_region 13 with fail
          go_quiet (fail)
          go_wp2
          go_roundw
          case rel => exact ⟨k + 1, by go_num, hlt, Place.below_drewN hbw'.out nq⟩
          case measure => simp [intOf]; omega
        · obtain rfl : k = N2 := by omega
          have hS7 := Lib.hid (hS6.out.on hbw)
          have hu17 := Lib.hid (hu16.out.on hbw)
          clear hbw
          have v0 := hS7.out.veh.cell 0
          have v1 := hS7.out.veh.cell 1
          have v2 := hS7.out.veh.cell 2
          have v3 := hS7.out.veh.cell 3
          have v4 := hS7.out.veh.cell 4
          have y1 := hS7.out.by_.cell 1
          have hs1 := hS7.out.veh.inside
          have hs2 := hS7.out.by_.inside
          simp at v0 v1 v2 v3 v4 y1
          have hbU : Below wr.heap.size wr (wr.alloc (.cells #[.int .i64 v.hx, .int .i64 v.hy, .int .i64 v.cp, .int .i64 v.st, .int .i64 (min (v.en + b1) 1048576)] 30)) := (Below.refl _ _).alloc (Nat.le_refl _) _
          have hS8 := Lib.hid (hS7.out.on hbU)
          have hu18 := Lib.hid (hu17.out.on hbU)
          clear hbU
          go_wp2_with fail
          refine (cC.out _ hS8.out).mono ?_
          clear v0 v1 v2 v3 v4 y1 hs1 hs2
          rintro e w9 ⟨⟨x4, N4, k4, rfl, hu4⟩, hb9⟩
          have hS9 := Lib.hid (hS8.out.on hb9)
          have hu19 := Lib.hid (hu18.out.on hb9)
          clear hb9 hS7 hS8 hu17 hu18
          obtain ⟨r1, r2, r3⟩ := f3.out (by simpa using z1)
          rw [r2] at hu4
          have hu49 := Lib.hid hu4
          have hc := Same_any _ _ T1 T1 w9 hu19.out hu49.out
          rw [decide_eq_true rfl] at hc
          have z4 : (E4 != 0) = false := by simpa using r1
          have z5 : (H4 != H1) = false := by simpa using r3
          clear hu4 r1 r2 r3
          go_wp2_with fail
          refine hc.mono ?_
          clear hc
          rintro e w10 ⟨rfl, hb10⟩
          have hS10 := Lib.hid (hS9.out.on hb10)
          have hu110 := Lib.hid (hu19.out.on hb10)
          clear hb10 hu49
          have hRq : Hid (Rqs (w10.alloc (.cells #[] 56)).heap.size (w10.alloc (.cells #[] 56)) (.slice xr Nr cr) t) := Lib.hid (hS10.out.rqs.on ((Below.refl _ _).alloc (Nat.le_refl _) _))
          have hpl := rqs_plain hRq.out
          go_upto_region 23 with (at_builtin; go_loud (refine wpList_append_plain rfl _ _ 26 rfl w10.heap.size 56 iq (.agg #[.int .i64 0, .int .i64 0, .int .i64 0, .int .i64 0, .int .i64 0, .int .i64 0, .int .i64 0, .int .i64 0, .int .i64 0, .int .i64 0]) 10 80 Try.underlying26 hi hz0 hz1 hz2 rfl (by decide) _ _ _ rfl (ownsEmpty10 rfl (Nat.le_refl _)) (.slice xr Nr cr) Nr ⟨_, _, rfl⟩ hpl (flatQ t) rfl (by rw [flatQ_length, hNr.out]) (fun ad c e => by cases e; exact rqs_flat hRq.out) flatQ_one (by unfold maxLen; omega) (by omega) (by simp) ?_; intro v11 w11 hown11 hgrow11; rw [Nat.zero_add, List.nil_append] at hown11; obtain ⟨x11, k11, rfl, hk11a, hk11b⟩ := owns_slice hown11))
          have hB11 : Below w10.heap.size w10 w11 := ((Below.refl _ _).alloc (Nat.le_refl _) _).grown hgrow11 (by simp) (fun r e => by cases e; exact Nat.le_refl _)
          unfold maxLen at hk11a
          have hown11' := Lib.hid hown11
          have hB11' := Lib.hid hB11
          clear hown11 hgrow11 hB11 hpl hRq
          go_wp2
          go_loopw [21] (fun i wz => ∃ k : Nat, i = .int .i64 k ∧ k ≤ Nr ∧ wz.ownsRow w10.heap.size 56 10 (.slice x11 Nr k11) Nr (flatQ (mixL X t k)) ∧ Below w10.heap.size w10 wz) (fun i _ => Nr - (intOf i).toNat)
          case atStart => exact ⟨0, rfl, Nat.zero_le _, by rw [mixL_zero]; exact hown11'.out, hB11'.out⟩
          case round =>
            obtain ⟨k, rfl, hk, hown, hbz⟩ := hrel
            clear hown11' hB11'
            by_cases hlt : k < Nr
            · obtain ⟨q, hq⟩ : ∃ q, t[k]? = some q := ⟨t[k]'(by rw [hNr.out]; exact hlt), List.getElem?_eq_getElem _⟩
              obtain ⟨j1, j2, j3⟩ := hdeb.out q (List.mem_of_getElem? hq)
              obtain ⟨gq, rfl, _⟩ : ∃ gq : Nat, x11 = some ⟨gq, 0, none⟩ ∧ Nr ≤ k11 := by
                rcases owns_parts hown with ⟨_, h0, _⟩ | h0
                · omega
                · exact h0
              have hmg := mixL_get (x := X) hq
              have c6 := hown.cellAt (k * 10 + 6) (by omega)
              have c7 := hown.cellAt (k * 10 + 7) (by omega)
              rw [flatQ_get hmg 6 (by decide)] at c6
              rw [flatQ_get hmg 7 (by decide)] at c7
              replace c6 : wr.cell? ⟨gq, k * 10 + 6, none⟩ = some (.int .i64 q.de) := c6
              replace c7 : wr.cell? ⟨gq, k * 10 + 7, none⟩ = some (.int .i64 q.dl) := c7
              have cf := hown.frozenAt (k * 10 + 6)
              have hy := (hS10.out.on hbz).by_
              have y2 := hy.cell 2
              have hs2 := hy.inside
              simp at y2
              have hgq : gq < wr.heap.size := own_lt hown gq rfl
              have hgb := owns_row hown gq rfl
              have hst := hown.stored (k * 10 + 6) (.int .i64 (min (q.de + X) q.dl))
              rw [flatQ_set hmg] at hst
              have hnx := mixL_next (x := X) hq
              have hst2 : Hid ((wr.setCell ⟨gq, k * 10 + 6, none⟩ (.int .i64 (min (q.de + X) q.dl))).ownsRow w10.heap.size 56 10 (.slice (some ⟨gq, 0, none⟩) Nr k11) Nr (flatQ (mixL X t (k + 1)))) := Lib.hid (by rw [← hnx]; exact hst.1)
              have hb3 : Hid (Below w10.heap.size w10 (wr.setCell ⟨gq, k * 10 + 6, none⟩ (.int .i64 (min (q.de + X) q.dl)))) := Lib.hid (hbz.setCell (by simpa using hgb) _)
              clear hq hmg hown hy hst hnx hbz
              go_upto_region 26 with fail
              go_region
              go_wp2
              go_roundw
              case rel => exact ⟨k + 1, by go_num, hlt, hst2.out, Below.drew hb3.out⟩
              case measure => simp [intOf]; omega
            · obtain rfl : k = Nr := by omega
              have hfull : mixL X t k = t.map (lateQ X) := by rw [← hNr.out]; exact mixL_all X t
              rw [hfull] at hown
              have hq2 : Rqs wr.heap.size wr (.slice x11 k k11) (t.map (lateQ X)) := Rqs.of_owns hown (by rw [List.length_map, hNr.out]) (Nat.le_refl _)
              have hS12 := hS10.out.on hbz
              have hu112 := Lib.hid (hu110.out.on hbz)
              have hc := cD.out wr x11 k k11 hS12.row hq2
              have v0 := hS12.veh.cell 0
              have v1 := hS12.veh.cell 1
              have v2 := hS12.veh.cell 2
              have v3 := hS12.veh.cell 3
              have v4 := hS12.veh.cell 4
              have hs1 := hS12.veh.inside
              simp at v0 v1 v2 v3 v4
              have hS12' := Lib.hid hS12
              clear hfull hown hq2 hbz hS12
              go_wp2_with fail
              refine hc.mono ?_
              clear hc v0 v1 v2 v3 v4 hs1
              rintro e w13 ⟨⟨x3, N3, k3, rfl, hu3⟩, hb13⟩
              have hS13 := Lib.hid (hS12'.out.on hb13)
              have hu113 := Lib.hid (hu112.out.on hb13)
              have hu313 := Lib.hid hu3
              obtain ⟨_, _, _, e1, hN3, hk31, hk32, _⟩ := hu3.opened
              simp only [Value.slice.injEq] at e1
              obtain ⟨rfl, rfl, rfl⟩ := e1
              unfold maxLen at hk32
              have hN3' := Lib.hid hN3
              clear hb13 hu3 hS12' hu112 hN3
              go_wp2
              go_loopw [24] (fun i wz => ∃ j : Nat, i = .int .i64 j ∧ j ≤ N3 ∧ Below w13.heap.size w13 wz) (fun i _ => N3 - (intOf i).toNat)
              case atStart => exact ⟨0, rfl, Nat.zero_le _, Below.refl _ _⟩
              case round =>
                obtain ⟨j, rfl, hj, hbw⟩ := hrel
                by_cases hlt3 : j < N3
                · obtain ⟨q, hq⟩ := tm_get hN3'.out hlt3
                  obtain ⟨hE10, p, hp, hle⟩ := f5.out j q hq
                  obtain ⟨g3, o3, rfl, hg3, c0, c1, c2⟩ := Tms.at (hu313.out.on hbw) hq
                  obtain ⟨g1, o1, eg1, hg1, d0, d1, d2⟩ := Tms.at (hu113.out.on hbw) hp
                  subst eg1
                  have hk1 : j < N1 := by rw [← hN1'.out]; exact (List.getElem?_eq_some_iff.1 hp).1
                  have i1 : decide (q.ar < p.ar) = false := decide_eq_false (by have := hle.1; omega)
                  have i2 : decide (q.be < p.be) = false := decide_eq_false (by have := hle.2.1; omega)
                  have hbw' := Lib.hid hbw
                  clear hq hp hle hbw hE10
                  go_upto_region 31 with fail
                  go_quiet (fail)
                  go_wp2
                  go_roundw
                  case rel => exact ⟨j + 1, by go_num, hlt3, Place.below_drewN hbw'.out nq⟩
                  case measure => simp [intOf]; omega
                · obtain rfl : j = N3 := by omega
                  have hBf := Lib.hid (hS13.out.on hbw).below
                  clear hbw
                  cases z3 : (E3 == 0)
                  · have z3' : (E3 != 0) = true := by simpa using z3
                    go_wp2
                    go_ret
                    exact ⟨rfl, hBf.out⟩
                  · have z3' : (E3 != 0) = false := by simpa using z3
                    obtain ⟨y1, y2⟩ := f4.out (by simpa using z3)
                    have g9 : decide (H1 ≤ H3) = true := decide_eq_true y2
                    clear y1
                    go_wp2
                    go_ret
                    exact ⟨rfl, hBf.out⟩

set_option maxRecDepth 100000 in
theorem lifted (os : Os) (started : os.Started) (H : Type) (enc : TypeId × Value → H) :
    ReturnsInHanded {} Try.checked os 5 .any (Rows.schedLaterSpec.pre6 enc Try.prog Try.f5 Rows.schedLaterRow.domain false) (Rows.schedLaterSpec.post enc Try.prog Try.f5 false true false false) := by
  refine returnsInHanded_of_change (C := Try.checked) own started (by kernel_rfl) Try.func5
    (ChangeSpec.witness6 (enc := enc) (C := Try.checked) false ⟨#[], #[.agg #[.slice none 0 0, .int .u8 0, .int .u8 0, .int .i64 0], .agg #[.int .u8 0, .int .u8 0, .int .u8 0]], []⟩ 8 (by kernel_rfl) (by kernel_rfl) (by kernel_rfl) (by kernel_rfl)) ?_
  intro W base args ds gs before hval0 hW hcnd _
  have hval : ∀ (j : Nat) t v, Try.f5.params[j]? = some t → args[j]? = some v → Value.okWide Try.prog W .any base t v := hval0
  have hW' := hW
  obtain ⟨p, q, hA0, hV, rfl, hfz, hnd⟩ := hW
  have hA : DataW.TrodAll enc Try.prog W 0 (fun _ => true) true Try.f5.params.toList args.toList ds p := hA0
  rw [Try.params5] at hA hval
  obtain ⟨v0, vs0, d0, ds0, p0, q0, hargs, rfl, rfl, h0, r0⟩ := trodAll_cons hA
  obtain ⟨v1, vs1, d1, ds1, p1, q1, rfl, rfl, rfl, h1, r1⟩ := trodAll_cons r0
  obtain ⟨rfl, rfl, rfl⟩ := trodAll_nil r1
  obtain rfl : args = #[v0, v1] := by cases args; simp_all
  obtain ⟨rfl, rfl⟩ := trodVars_none hV
  obtain ⟨xb, Nb, cb, bs, a, b, k, rfl, hrow, hby, ha, hb⟩ := openDraft (hval 0 24 v0 rfl rfl) h0
  obtain ⟨b0, b1, b2, rfl, hb0, hb1, hb2⟩ := openBy (hval 1 58 v1 rfl rfl) h1
  exact (walk xb Nb cb bs a b k hby ha hb b0 b1 b2 hb0 hb1 hb2 W hrow).mono fun e W' ⟨he, hb⟩ => ⟨_, he, Close.law_post laidOut (by kernel_rfl) rfl (by kernel_rfl) Try.underlying4 hW' rfl hb⟩

theorem over : Rows.schedLaterRow.holds Try.pinned (OpenSpec.ofChange Rows.schedLaterSpec) :=
  OpenClaim.holds_of_wide 5 Try.f5 rfl rfl rfl rfl rfl rfl rfl ⟨rfl, rfl, rfl, rfl, rfl⟩ rfl rfl rfl rfl rfl (by kernel_rfl) Try.func5 (by kernel_rfl)
    (of_decide_eq_true (by kernel_rfl)) (by unfold Func.isWrapper; first | (rw [if_pos (by decide +kernel)]; kernel_rfl) | (rw [if_neg (by decide +kernel)]; exact ⟨rfl, rfl⟩))
    (fun os started H enc _ => lifted os started H enc)

theorem proved : Rows.SchedLaterSaid := over
#print axioms proved

end Go.Proofs.Ytphpkcndaifoiaa.schedLater

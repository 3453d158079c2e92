import Derived.Test.YteefkijmodcijaaDoorPkWindowAsk
import Derived.Test.YteefkijmodcijaaDoorPkWhenParts

/-
  The document's times of a route, as early as can be but for some loitering, one number otherwise: some row of as many times, of no great numbers, in memory of the call's own.
-/
namespace Go.Proofs.YteefkijmodcijaaDoor.Feas
open Go.RowKit Go.Sort Go.Proofs.YteefkijmodcijaaDoor.Mem Go.Proofs.YteefkijmodcijaaDoor.Route Go.Proofs.YteefkijmodcijaaDoor.When Go.Proofs.YteefkijmodcijaaDoor.Load Go.Proofs.YteefkijmodcijaaDoor.Place Go.Proofs.YteefkijmodcijaaDoor.Tail
set_option linter.unusedVariables false

/-- No number of these times is great. -/
def TmB (y : Tm) : Prop := (-1000000000 ≤ y.ar ∧ y.ar ≤ 1000000000) ∧ (-1000000000 ≤ y.be ∧ y.be ≤ 1000000000) ∧ -1000000000 ≤ y.lv ∧ y.lv ≤ 1000000000
/-- What Times' own memory holds when k stops have been gone to. -/
structure PushI (w : World) (q : Nat) (sv : Value) (A Wh M : Int) (v : Vh) (k : Nat) (ts : List Tm) (u : Value) (now ax ay : Int) (W : World) : Prop where
  push : At W q 27 #[sv, .int .u8 A, .int .u8 Wh, .int .i8 M]
  veh : At W (q + 1) 34 #[.int .i64 v.hx, .int .i64 v.hy, .int .i64 v.cp, .int .i64 v.st, .int .i64 v.en]
  at_ : At W (q + 2) 32 #[.int .i64 ax, .int .i64 ay]
  own : W.ownsRow (q + 3) 40 3 u k (flatT ts)
  len : ts.length = k
  bd : ∀ y ∈ ts, TmB y ∧ -1000000 ≤ y.ar ∧ y.ar ≤ 100000000 ∧ -1000000 ≤ y.be ∧ y.be ≤ 100000000 ∧ -1000000 ≤ y.lv ∧ y.lv ≤ 100000000
  now : 0 ≤ now ∧ now ≤ 2000000 + 200000 * k
  below : Below q w W
def PushR (w : World) (q : Nat) (sv : Value) (A Wh M : Int) (v : Vh) (k : Nat) (u nv : Value) (W : World) : Prop :=
  ∃ ts x c now ax ay, u = .slice x k c ∧ nv = .int .i64 now ∧ PushI w q sv A Wh M v k ts u now ax ay W
theorem At.oldRow {W W' : World} {g q : Nat} {t : TypeId} {cs : Array Value} {row : Option Nat} (h : At W g t cs) (hg : W.grownBy W' row) (hr : ∀ r, row = some r → q + 3 ≤ r) (hq : g < q + 3) : At W' g t cs := (hg.block g h.inside (fun e => by have := hr g e.symm; omega)).trans h
theorem TmB.of {y : Tm} (h : -1000000 ≤ y.ar ∧ y.ar ≤ 100000000 ∧ -1000000 ≤ y.be ∧ y.be ≤ 100000000 ∧ -1000000 ≤ y.lv ∧ y.lv ≤ 100000000) : TmB y ∧ -1000000 ≤ y.ar ∧ y.ar ≤ 100000000 ∧ -1000000 ≤ y.be ∧ y.be ≤ 100000000 ∧ -1000000 ≤ y.lv ∧ y.lv ≤ 100000000 := by
  refine ⟨?_, h⟩
  unfold TmB
  omega

theorem flat_setL {α : Type} {f : α → List Value} {m : Nat} (hf : ∀ x, (f x).length = m) {x x' : α} {i : Nat} {v : Value} (hi : i < m) (hx' : (f x).set i v = f x') : ∀ {l : List α} {j : Nat}, l[j]? = some x → ((l.map f).flatten).set (j * m + i) v = ((l.set j x').map f).flatten
  | [], _, h => by simp at h
  | y :: l, 0, h => by
    have e : y = x := by simpa using h
    subst e
    simp only [List.map_cons, List.flatten_cons, List.set_cons_zero, Nat.zero_mul, Nat.zero_add]
    rw [List.set_append_left _ _ (by rw [hf]; exact hi), hx']
  | y :: l, j + 1, h => by
    have h' : l[j]? = some x := by simpa using h
    have ih := flat_setL hf hi hx' h'
    simp only [List.map_cons, List.flatten_cons, List.set_cons_succ]
    rw [List.set_append_right _ _ (by rw [hf, Nat.add_mul]; omega), hf, show (j + 1) * m + i - m = j * m + i by rw [Nat.add_mul]; omega, ih]
theorem ownsOpen {W : World} {base n cap : Nat} {e : TypeId} {size : Nat} {x : Option Addr} {xs : List Value} (h : W.ownsRow base e size (.slice x n cap) n xs) (hn : 0 < n) : ∃ g : Nat, x = some ⟨g, 0, none⟩ ∧ base ≤ g := by
  obtain ⟨hl, ⟨e, h0⟩ | ⟨g, cap', cur, e, hb, _⟩⟩ := h
  · omega
  · simp only [Value.slice.injEq] at e
    exact ⟨g, e.1, hb⟩
theorem ownsLow {A : World} {base b size k : Nat} {e : TypeId} {v : Value} {xs : List Value} (h : A.ownsRow base e size v k xs) (hb : b ≤ base) : A.ownsRow b e size v k xs := by
  obtain ⟨hl, h1 | ⟨g, cap, cur, rfl, hg1, hg, hr⟩⟩ := h
  · exact ⟨hl, .inl h1⟩
  · exact ⟨hl, .inr ⟨g, cap, cur, rfl, by omega, hg, hr⟩⟩
theorem ownsFar {A : World} {base size k : Nat} {e : TypeId} {v : Value} {xs : List Value} (h : A.ownsRow base e size v k xs) {b : Nat} (hb : ∀ r, v.ownBlock = some r → r ≠ b) (i : Nat) (x : Value) : (A.setCell ⟨b, i, none⟩ x).ownsRow base e size v k xs := by
  obtain ⟨hl, h1 | ⟨g, cap, cur, rfl, hg1, hg, hr⟩⟩ := h
  · exact ⟨hl, .inl h1⟩
  · exact ⟨hl, .inr ⟨g, cap, cur, rfl, hg1, (Below.heap_setCell _ _ _ _ (hb g rfl)).trans hg, hr⟩⟩

set_option maxRecDepth 100000 in
set_option maxHeartbeats 8000000 in
theorem push_any (v : Vh) (xb : Option Addr) (Nb cb : Nat) (bs : List Int) (A Wh M : Int) (vl vt : Value) (l : List (Int × Int)) (t : List Rq) (w : World) (hb : RowB w.heap.size w (.slice xb Nb cb) 1 (bs.map byV)) (hby : ∀ x ∈ bs, 0 ≤ x ∧ x < 256) (hA : 0 ≤ A ∧ A < 256) (hWh : 0 ≤ Wh ∧ Wh < 256) (hM : -128 ≤ M ∧ M < 128)
    (hst : 0 ≤ v.st ∧ v.st ≤ 1048576) (hl : l.length ≤ 30) (hvis : ∀ s ∈ l, ∃ x, visO t s = some x ∧ OkVi x) (hL : Row w.heap.size w vl l) (hT : Rqs w.heap.size w vt t) :
    Calls Tryd.prog 13 #[.agg #[.slice xb Nb cb, .int .u8 A, .int .u8 Wh, .int .i8 M], .agg #[.int .i64 v.hx, .int .i64 v.hy, .int .i64 v.cp, .int .i64 v.st, .int .i64 v.en], vl, vt] w fun e w' =>
      (∃ u ts, e = .returned u ∧ w'.ownsRow w.heap.size 40 3 u ts.length (flatT ts) ∧ ts.length = l.length ∧ ∀ y ∈ ts, TmB y) ∧ Below w.heap.size w w' := by
  obtain ⟨i0, hi, hz0, hz1, hz2⟩ := info_parts info_time
  obtain ⟨xl, N, capl, rfl, hN, hl0, hlc1, hlc2⟩ := hL.opened
  obtain ⟨xt, Nt, capt, rfl, hNt, htc1, htc2, ht0⟩ := hT.opened
  obtain ⟨q, hq⟩ : ∃ q, w.heap.size = q := ⟨_, rfl⟩
  have hNb : Hid (bs.length = Nb) ∧ Nb ≤ cb ∧ cb ≤ maxLen := by
    obtain ⟨x', c', e, h1, h2, h0, _⟩ := hb
    simp only [Value.slice.injEq, List.length_map] at e h1
    obtain ⟨rfl, rfl, rfl⟩ := e
    exact ⟨Lib.hid rfl, h1, h2⟩
  obtain ⟨hNb, hcb1, hcb2⟩ := hNb
  unfold maxLen at hlc2 htc2 hcb2
  have hN' : Hid (l.length = N) := hN
  have hNt' : Hid (t.length = Nt) := Lib.hid hNt
  have hN30 : N ≤ 30 := by rw [← hN'.out]; exact hl
  rw [hq] at hb hL hT ⊢
  have hb' := Lib.hid hb
  have hL' := Lib.hid hL
  have hT' := Lib.hid hT
  have hq' := Lib.hid hq
  have hvis' := Lib.hid hvis
  have hby' := Lib.hid hby
  obtain ⟨w1, hw1⟩ : ∃ w1, (w.alloc (.cells #[.slice xb Nb cb, .int .u8 A, .int .u8 Wh, .int .i8 M] 27)).alloc (.cells #[.int .i64 v.hx, .int .i64 v.hy, .int .i64 v.cp, .int .i64 v.st, .int .i64 v.en] 34) = w1 := ⟨_, rfl⟩
  have hP1 : At w1 q 27 #[.slice xb Nb cb, .int .u8 A, .int .u8 Wh, .int .i8 M] := by rw [← hw1]; exact (At.new_ _ _ _ hq.symm).alloc _
  have hV1 : At w1 (q + 1) 34 #[.int .i64 v.hx, .int .i64 v.hy, .int .i64 v.cp, .int .i64 v.st, .int .i64 v.en] := by rw [← hw1]; exact At.new_ _ _ _ (by simp [hq])
  have hb1 : Below q w w1 := by rw [← hw1]; exact ((Below.refl _ _).alloc (by omega) _).alloc (by simp; omega) _
  have hs1 : w1.heap.size = q + 2 := by rw [← hw1]; simp [hq]
  have hs1' := Lib.hid hs1
  have hw1' := Lib.hid hw1
  clear hb hL hT hq hvis hby hw1 hN hNt hl ht0 hl0 hs1
  obtain ⟨hst1, hst2⟩ := hst
  go_enter Tryd.func13, Tryd.ntmps13
  go_upto_region 2 with fail
  simp only [hq'.out]
  rw [hw1'.out]
  have c0 := hV1.cell 0
  have c1 := hV1.cell 1
  have c3 := hV1.cell 3
  simp at c0 c1 c3
  go_cut [10, 11] from 17 to 20 (fun s10 s11 wx => s10 = .pointer (some ⟨q + 2, 0, none⟩) ∧ s11 = .int .i64 v.st ∧ At wx (q + 2) 32 #[.int .i64 v.hx, .int .i64 v.hy] ∧ Below w1.heap.size w1 wx)
  case first =>
    have hsz : w1.heap.size = q + 2 := hs1'.out
    go_region
    all_goals
      go_wp2_with fail
      go_meet
      refine ⟨by rw [← hs1'.out], rfl, ?_, ?_⟩
      · rw [← hs1'.out]
        repeat (first | with_reducible exact At.new_ _ _ _ rfl | (with_reducible refine At.new_ _ _ _ ?_; simp; done) | with_reducible refine At.far ?_ (by simp <;> omega) _ _ | with_reducible refine At.drew ?_ | with_reducible refine At.alloc ?_ _)
      · repeat (first | with_reducible refine Below.drew ?_ | with_reducible refine Below.setCell ?_ (by simp) _ | with_reducible refine Below.alloc ?_ (by simp <;> omega) _ | with_reducible exact Below.refl _ _)
  case rest =>
  obtain ⟨rfl, rfl, hA2, hb2⟩ := hcut
  obtain ⟨w2, rfl⟩ : ∃ w2, w2 = wc := ⟨_, rfl⟩
  have hR0 : PushR w q (.slice xb Nb cb) A Wh M v 0 (.slice none 0 0) (.int .i64 v.st) w2 :=
    ⟨[], none, 0, v.st, v.hx, v.hy, rfl, rfl, hP1.keep hb2 hP1.inside, hV1.keep hb2 hV1.inside, hA2, World.ownsRow_nil _ _ _ _, rfl, (fun y h => by cases h), by omega, hb1.trans (hb2.mono (by rw [hs1'.out]; omega))⟩
  clear hA2 hb2 hP1 hV1 c0 c1 c3 hb1
  go_wp2
  go_loopw [9, 11, 12] (fun u nv i wr => ∃ k : Nat, i = .int .i64 k ∧ k ≤ N ∧ PushR w q (.slice xb Nb cb) A Wh M v k u nv wr) (fun _ _ i _ => N - (intOf i).toNat)
  case atStart => exact ⟨0, rfl, Nat.zero_le _, hR0⟩
  case round =>
    obtain ⟨k, rfl, hk, ts, xo, co, now, ax, ay, rfl, rfl, hI⟩ := hrel
    clear hR0
    have hI' := Lib.hid hI
    have hwq : q ≤ wr.heap.size := by have := hI.below.size; have := hq'.out; omega
    have hwq3 : q + 2 < wr.heap.size := hI.at_.inside
    obtain ⟨hn1, hn2⟩ := hI.now
    by_cases hlt : k < N
    · obtain ⟨⟨s1, s2⟩, hs⟩ : ∃ s, l[k]? = some s := ⟨l[k]'(by rw [hN'.out]; exact hlt), List.getElem?_eq_getElem _⟩
      obtain ⟨x, hx, hok⟩ := hvis'.out _ (List.mem_of_getElem? hs)
      obtain ⟨hx1, hx2, hx3, hx4, hx5⟩ := hok
      have hlt2 : (k : Int) < N := by omega
      have hstop : Hid (∀ W, Below q w W → ∃ g o, xl = some ⟨g, o, none⟩ ∧ W.cell? ⟨g, o + k * 2, none⟩ = some (.int .i64 s1) ∧ W.cell? ⟨g, o + k * 2 + 1, none⟩ = some (.int .i64 s2)) := Lib.hid fun W hW => by
        obtain ⟨g, o, e, _, h1, h2⟩ := Row.stop (hL'.out.keep hW (Nat.le_refl _)) hs
        exact ⟨g, o, e, h1, h2⟩
      obtain ⟨gl, ol, rfl, -, -⟩ := hstop.out wr hI.below
      obtain ⟨qr, hqr, hr0, hr1, hsv, -⟩ := visO_some hx
      simp only at hqr hr0 hr1 hsv
      obtain ⟨j, rfl⟩ : ∃ j : Nat, s1 = j := ⟨s1.toNat, by omega⟩
      simp only [Int.toNat_natCast] at hqr
      have hj1 : j < Nt := by have := hNt'.out; omega
      have hj2 : (j : Int) < Nt := by omega
      obtain ⟨gt, ot, rfl, -, -⟩ := Rqs.at (hT'.out.keep hI.below (Nat.le_refl _)) hqr
      have hmem : Hid (∀ W, Below q w W → W.cell? ⟨gl, ol + k * 2, none⟩ = some (.int .i64 j) ∧ W.cell? ⟨gl, ol + k * 2 + 1, none⟩ = some (.int .i64 s2) ∧ W.cell? ⟨gt, ot + j * 10 + 9, none⟩ = some (.int .i64 x.sv)) := Lib.hid fun W hW => by
        obtain ⟨g, o, e, h1, h2⟩ := hstop.out W hW
        cases e
        obtain ⟨g2, o2, e2, _, h3⟩ := Rqs.at (hT'.out.keep hW (Nat.le_refl _)) hqr
        cases e2
        exact ⟨h1, h2, by rw [hsv]; exact h3.2.2.2.2.2.2.2.2.2⟩
      have hx' := Lib.hid hx
      clear hs hx hqr hr0 hr1 hsv hI
      go_upto_region 7 with fail
      have p0 := hI'.out.push.cell 0
      simp at p0
      go_upto_if 30 with fail
      go_cut [13] from 31 to 40 (fun s13 wx => ∃ b : Int, s13 = .int .i64 b ∧ (0 ≤ b ∧ b < 256) ∧ Below wr.heap.size wr wx)
      case first =>
        by_cases hn0 : 0 < Nb
        · have ht0 : decide (0 < Nb) = true := by simpa using hn0
          have hn0i : (0 : Int) < Nb := by omega
          have hm1 : 0 ≤ (k : Int) % (Nb : Int) := Int.emod_nonneg _ (by omega)
          have hm2 : (k : Int) % (Nb : Int) < Nb := Int.emod_lt_of_pos _ hn0i
          obtain ⟨m, hm⟩ : ∃ m : Nat, (k : Int) % (Nb : Int) = m := ⟨((k : Int) % (Nb : Int)).toNat, by omega⟩
          have htm : (k : Int).tmod (Nb : Int) = m := by rw [Int.tmod_eq_emod_of_nonneg (by omega), hm]
          have hmN : m < Nb := by omega
          obtain ⟨y, hy⟩ : ∃ y, bs[m]? = some y := ⟨bs[m]'(by rw [hNb.out]; exact hmN), List.getElem?_eq_getElem _⟩
          obtain ⟨gb, ob, rfl, _, hcb⟩ := RowB.row (hb'.out.keep hI'.out.below (Nat.le_refl _)) (j := m) (r := byV y) (by rw [List.getElem?_map, hy]; rfl)
          have d0 := hcb 0 _ rfl
          have hyb := hby'.out y (List.mem_of_getElem? hy)
          obtain ⟨hy1, hy2⟩ := hyb
          simp at d0
          have hyw : IntKind.i64.wrap y = y := IntWalk.i64_in _ (by omega)
          clear hcb hy
          have hz : ((Nb : Int) == 0) = false := by simp; omega
          clear hm1 hm2 htm
          go_upto_region 8 with fail
          go_quiet (fail)
          go_wp2_with fail
          go_meet
          exact ⟨y, rfl, ⟨hy1, hy2⟩, below_drewN (Below.refl _ _) nq⟩
        · obtain rfl : Nb = 0 := by omega
          go_wp2
          all_goals go_meet
          exact ⟨0, rfl, by omega, Below.refl _ _⟩
      case rest =>
      obtain ⟨by_, rfl, ⟨hby1, hby2⟩, hb3⟩ := hcut
      obtain ⟨w3, rfl⟩ : ∃ w3, w3 = wc := ⟨_, rfl⟩
      have hb8a : 0 ≤ by_ % 8 := Int.emod_nonneg _ (by omega)
      have hb8b : by_ % 8 < 8 := Int.emod_lt_of_pos _ (by omega)
      have hb8c : 0 ≤ by_ / 8 := Int.ediv_nonneg (by omega) (by omega)
      have hb8d : by_ / 8 ≤ by_ := Int.ediv_le_self _ (by omega)
      have hB3 : Below q w w3 := hI'.out.below.trans (hb3.mono hwq)
      have hA3 := hI'.out.at_.keep hb3 hI'.out.at_.inside
      have hO3 := Lib.hid (owns_below hI'.out.own hb3)
      have hPu3 := hI'.out.push.keep hb3 hI'.out.push.inside
      have hVe3 := hI'.out.veh.keep hb3 hI'.out.veh.inside
      have hw3s : wr.heap.size ≤ w3.heap.size := hb3.size
      have hor := Lib.hid (own_lt hI'.out.own)
      clear hb3 p0
      -- the place
      obtain ⟨e0, e1, e9⟩ := hmem.out w3 hB3
      have hpl := rPlace_any j s2 _ t x w3 hx'.out ((hT'.out.keep hB3 (Nat.le_refl _)).more (by have := hB3.size; have := hq'.out; omega))
      go_wp2_with fail
      refine hpl.mono ?_
      clear hpl e0 e1 e9
      rintro e w4 ⟨rfl, hb4⟩
      obtain ⟨m1, hm1⟩ : ∃ m1, w4.heap.size = m1 := ⟨_, rfl⟩
      obtain ⟨w5, hw5⟩ : ∃ w5, w4.alloc (.cells #[.int .i64 x.px, .int .i64 x.py] 32) = w5 := ⟨_, rfl⟩
      have hX5 : At w5 m1 32 #[.int .i64 x.px, .int .i64 x.py] := by rw [← hw5]; exact At.new_ _ _ _ hm1.symm
      have hb5 : Below w4.heap.size w4 w5 := by rw [← hw5]; exact (Below.refl _ _).alloc (Nat.le_refl _) _
      have hb35 := hb4.trans (hb5.mono hb4.size)
      have hA5 := hA3.keep hb35 hA3.inside
      have hO5 := Lib.hid (owns_below hO3.out hb35)
      have hPu5 := hPu3.keep hb35 hPu3.inside
      have hVe5 := hVe3.keep hb35 hVe3.inside
      have hB5 := hB3.trans (hb35.mono (by have := hA3.inside; omega))
      have hm1q : q + 2 < m1 := by have := hA3.inside; have := hb4.size; omega
      have hwm1 : wr.heap.size ≤ m1 := by have := hb4.size; omega
      have hw5' := Lib.hid hw5
      have hm1' := Lib.hid hm1
      clear hb4 hb5 hb35 hA3 hO3 hPu3 hVe3 hB3 hw5 hm1
      -- how far, and when
      obtain ⟨D, hD⟩ : ∃ D, distV (ax, ay) (x.px, x.py) = D := ⟨_, rfl⟩
      have hDb : 0 ≤ D ∧ D ≤ 100000 := by rw [← hD]; exact dist_bd _ _
      obtain ⟨hD1, hD2⟩ := hDb
      have hcD := refDist_any ax ay x.px x.py w5
      rw [hD] at hcD
      clear hD
      go_upto_region 10 with fail
      simp only [hm1'.out]
      rw [hw5'.out]
      have a0 := hA5.cell 0
      have a1 := hA5.cell 1
      have x0 := hX5.cell 0
      have x1 := hX5.cell 1
      simp at a0 a1 x0 x1
      go_wp2_with fail
      refine hcD.mono ?_
      clear hcD a0 a1 x0 x1
      rintro e w6 ⟨rfl, hb6⟩
      obtain ⟨m2, hm2⟩ : ∃ m2, w6.heap.size = m2 := ⟨_, rfl⟩
      obtain ⟨R, hR⟩ : ∃ R, now + D + by_ % 8 = R := ⟨_, rfl⟩
      have hR1 : 0 ≤ R := by omega
      have hR2 : R ≤ now + 100007 := by omega
      obtain ⟨w7, hw7⟩ : ∃ w7, w6.alloc (.cells #[.int .i64 R, .int .i64 0, .int .i64 0] 40) = w7 := ⟨_, rfl⟩
      have hY7 : At w7 m2 40 #[.int .i64 R, .int .i64 0, .int .i64 0] := by rw [← hw7]; exact At.new_ _ _ _ hm2.symm
      have hb7 : Below w6.heap.size w6 w7 := by rw [← hw7]; exact (Below.refl _ _).alloc (Nat.le_refl _) _
      have hb57 := hb6.trans (hb7.mono hb6.size)
      have hX7 := hX5.keep hb57 hX5.inside
      have hA7 := hA5.keep hb57 hA5.inside
      have hO7 := Lib.hid (owns_below hO5.out hb57)
      have hPu7 := hPu5.keep hb57 hPu5.inside
      have hVe7 := hVe5.keep hb57 hVe5.inside
      have hB7 := hB5.trans (hb57.mono (by have := hA5.inside; omega))
      have hm12 : m1 < m2 := by have := hX5.inside; have := hb6.size; omega
      have hw7' := Lib.hid hw7
      have hm2' := Lib.hid hm2
      have hR' := Lib.hid hR
      clear hb6 hb7 hb57 hX5 hA5 hO5 hPu5 hVe5 hB5 hw7 hm2 hw5' hm1' hR
      go_upto_region 11 with fail
      simp only [hm2'.out, hR'.out]
      rw [hw7'.out]
      have y0 := hY7.cell 0
      simp at y0
      obtain ⟨e0, e1, e9⟩ := hmem.out w7 hB7
      have ky0 := cell_regrown y0
      have ke0 := cell_regrown e0
      have ke1 := cell_regrown e1
      have hs7 : q ≤ w7.heap.size := by have := hA7.inside; omega
      have kW := fun d os => Calls.regrown_of (rWindow_any j s2 _ t x (grow (redrawn w7 d) os) hx'.out ((hT'.out.keep (hB7.trans ((below_regrown w7 d os).mono hs7)) (Nat.le_refl _)).more (Nat.le_trans hs7 (below_regrown w7 d os).size)))
      have hfl : ∀ W, (Instr.field 60 (.agg #[.int .i64 x.we, .int .i64 x.wl]) 0).run Tryd.prog W = .ok (.int .i64 x.we) W := fun _ => by kernel_rfl
      refine wp_region_below_tail 13 (by kernel_rfl) (by kernel_rfl) (by kernel_rfl) ?_
      simp only [List.take_succ_cons, List.take_zero, List.drop_succ_cons, List.drop_zero]
      repeat (go_big_quiet_step (with_reducible exact kW _ _))
      refine wpQuiet_nil ?_
      intro _ hw'
      obtain ⟨⟨dq, osq⟩, hw''⟩ := hw'
      subst hw''
      have hb8 := below_regrown w7 dq osq
      have hY8 := hY7.keep hb8 hY7.inside
      have hX8 := hX7.keep hb8 hX7.inside
      have hA8 := hA7.keep hb8 hA7.inside
      have hO8 := Lib.hid (owns_below hO7.out hb8)
      have hPu8 := hPu7.keep hb8 hPu7.inside
      have hVe8 := hVe7.keep hb8 hVe7.inside
      have hB8 := hB7.trans (hb8.mono hs7)
      clear kW ke0 ke1 ky0 y0 e0 e1 e9 hfl hs7 hY7 hX7 hA7 hO7 hPu7 hVe7 hB7 hb8
      generalize grow (redrawn w7 dq) osq = w8 at *
      have y1 := hY8.cell 1
      have yf := hY8.free
      simp at y1
      obtain ⟨BE, hBE⟩ : ∃ BE, max R x.we + by_ / 8 = BE := ⟨_, rfl⟩
      have hBE' := Lib.hid hBE
      have hBE1 : 0 ≤ BE := by omega
      have hBE2 : BE ≤ now + 1200000 ∧ BE ≤ 2000000 + 200000 * k + 1200000 := by omega
      have hlow : BE + x.sv ≤ 2000000 + 200000 * (k + 1) := by omega
      go_upto_region 12 with fail
      rw [hBE'.out]
      have hY9 : At (w8.setCell ⟨m2, 1, none⟩ (.int .i64 BE)) m2 40 #[.int .i64 R, .int .i64 BE, .int .i64 0] := by simpa using hY8.put 1 (.int .i64 BE)
      have hX9 := hX8.far (b := m2) (by omega) 1 (.int .i64 BE)
      have hA9 := hA8.far (b := m2) (by omega) 1 (.int .i64 BE)
      have hPu9 := hPu8.far (b := m2) (by omega) 1 (.int .i64 BE)
      have hVe9 := hVe8.far (b := m2) (by omega) 1 (.int .i64 BE)
      have hO9 := Lib.hid (ownsFar hO8.out (b := m2) (fun r e => by have := hor.out r e; omega) 1 (.int .i64 BE))
      have hB9 : Below q w (w8.setCell ⟨m2, 1, none⟩ (.int .i64 BE)) := hB8.setCell (p := ⟨m2, 1, none⟩) (by simp; omega) _
      clear hY8 hX8 hA8 hO8 hPu8 hVe8 hB8 y1 yf
      generalize w8.setCell ⟨m2, 1, none⟩ (.int .i64 BE) = w9 at *
      have y1 := hY9.cell 1
      simp at y1
      obtain ⟨e0, e1, e9⟩ := hmem.out w9 hB9
      have ky1 := cell_regrown y1
      have ke0 := cell_regrown e0
      have ke9 := cell_regrown e9
      have hs9 : q ≤ w9.heap.size := by have := hA9.inside; omega
      refine wp_region_below_tail 12 (by kernel_rfl) (by kernel_rfl) (by kernel_rfl) ?_
      simp only [List.take_succ_cons, List.take_zero, List.drop_succ_cons, List.drop_zero]
      repeat (go_big_quiet_step (fail))
      refine wpQuiet_nil ?_
      intro _ hw'
      obtain ⟨⟨dq, osq⟩, hw''⟩ := hw'
      subst hw''
      have hb10 := below_regrown w9 dq osq
      have hY10 := hY9.keep hb10 hY9.inside
      have hX10 := hX9.keep hb10 hX9.inside
      have hA10 := hA9.keep hb10 hA9.inside
      have hO10 := Lib.hid (owns_below hO9.out hb10)
      have hPu10 := hPu9.keep hb10 hPu9.inside
      have hVe10 := hVe9.keep hb10 hVe9.inside
      have hB10 := hB9.trans (hb10.mono hs9)
      clear ky1 ke0 ke9 y1 e0 e1 e9 hs9 hY9 hX9 hA9 hO9 hPu9 hVe9 hB9 hb10
      generalize grow (redrawn w9 dq) osq = w10 at *
      have y2 := hY10.cell 2
      have yf := hY10.free
      simp at y2
      obtain ⟨LV, hLV⟩ : ∃ LV, BE + x.sv = LV := ⟨_, rfl⟩
      have hLV' := Lib.hid hLV
      have hLV1 : 0 ≤ LV := by omega
      have hLV2 : LV ≤ 2000000 + 200000 * (k + 1) := by omega
      clear hLV
      go_upto_region 13 with fail
      rw [hLV'.out]
      have hY11 : At (w10.setCell ⟨m2, 2, none⟩ (.int .i64 LV)) m2 40 #[.int .i64 R, .int .i64 BE, .int .i64 LV] := by simpa using hY10.put 2 (.int .i64 LV)
      have hX11 := hX10.far (b := m2) (by omega) 2 (.int .i64 LV)
      have hA11 := hA10.far (b := m2) (by omega) 2 (.int .i64 LV)
      have hPu11 := hPu10.far (b := m2) (by omega) 2 (.int .i64 LV)
      have hVe11 := hVe10.far (b := m2) (by omega) 2 (.int .i64 LV)
      have hO11 := Lib.hid (ownsFar hO10.out (b := m2) (fun r e => by have := hor.out r e; omega) 2 (.int .i64 LV))
      have hB11 : Below q w (w10.setCell ⟨m2, 2, none⟩ (.int .i64 LV)) := hB10.setCell (p := ⟨m2, 2, none⟩) (by simp; omega) _
      clear hY10 hX10 hA10 hO10 hPu10 hVe10 hB10 y2 yf
      generalize w10.setCell ⟨m2, 2, none⟩ (.int .i64 LV) = w11 at *
      have y0 := hY11.cell 0
      have y1 := hY11.cell 1
      have y2 := hY11.cell 2
      simp at y0 y1 y2
      have hm211 := hY11.inside
      go_upto_region 14 with (at_builtin; refine wpList_append_own _ rfl _ _ 30 rfl (q + 3) 40 i0 (.agg #[.int .i64 0, .int .i64 0, .int .i64 0]) 3 24 Tryd.underlying30 hi hz0 hz1 hz2 rfl (by decide) _ _ _ rfl (hO11.out.alloc _) ⟨w11.heap.size, 0, none⟩ 1 1 [.int .i64 R, .int .i64 BE, .int .i64 LV] rfl rfl (World.news_of_block (cs := #[.int .i64 R, .int .i64 BE, .int .i64 LV]) (t := 40) (fr := (0, 0)) (heap_alloc_new w11 _)) (by simp [Value.oneCell']) (by unfold maxLen; omega) (by omega) (by simp; omega) ?_; intro v12 w12 hown12 hgrow12 hnil12; obtain ⟨x12, c12, rfl, _, _⟩ := owns_slice hown12)
      have hroo := Lib.hid (owns_row hO11.out)
      have hY12 : At w12 m2 40 #[.int .i64 R, .int .i64 BE, .int .i64 LV] := (hgrow12.block m2 (by simp; omega) (fun e => by have := hor.out m2 e.symm; omega)).trans (hY11.alloc _)
      have hX12 : At w12 m1 32 #[.int .i64 x.px, .int .i64 x.py] := (hgrow12.block m1 (by simp; omega) (fun e => by have := hor.out m1 e.symm; omega)).trans (hX11.alloc _)
      have hA12 := At.oldRow (hA11.alloc _) hgrow12 (fun r e => hroo.out r e) (by omega)
      have hPu12 := At.oldRow (hPu11.alloc _) hgrow12 (fun r e => hroo.out r e) (by omega)
      have hVe12 := At.oldRow (hVe11.alloc _) hgrow12 (fun r e => hroo.out r e) (by omega)
      have hB12 : Below q w w12 := (hB11.alloc (by omega) _).grown hgrow12 (by simp; omega) (fun r e => by have := hroo.out r e; omega)
      have hO12 := Lib.hid hown12
      clear hown12 hgrow12 hnil12 hY11 hX11 hA11 hO11 hPu11 hVe11 hB11 y0 y1 y2
      have y2 := hY12.cell 2
      have x0 := hX12.cell 0
      have x1 := hX12.cell 1
      have a0 := hA12.cell 0
      have a1 := hA12.cell 1
      have af := hA12.free
      simp at y2 x0 x1 a0 a1
      have hqm1 : q + 2 ≠ m1 := by omega
      have hqm2 : q + 2 ≠ m2 := by omega
      have hqm1' : m1 ≠ q + 2 := by omega
      have hqm2' : m2 ≠ q + 2 := by omega
      have htsn := Lib.hid (flatT_snoc ts ⟨R, BE, LV⟩)
      have hbdn : Hid (∀ y ∈ ts ++ [⟨R, BE, LV⟩], TmB y ∧ -1000000 ≤ y.ar ∧ y.ar ≤ 100000000 ∧ -1000000 ≤ y.be ∧ y.be ≤ 100000000 ∧ -1000000 ≤ y.lv ∧ y.lv ≤ 100000000) := Lib.hid fun y hy => by
        rcases List.mem_append.1 hy with hy | hy
        · exact hI'.out.bd y hy
        · obtain rfl := List.mem_singleton.1 hy
          exact TmB.of (by dsimp only; omega)
      go_region
      all_goals
        go_wp2_with fail
        go_roundw
        case rel =>
          refine ⟨k + 1, by go_num, hlt, ts ++ [⟨R, BE, LV⟩], x12, c12, LV, x.px, x.py, rfl, rfl, ?_⟩
          refine ⟨(hPu12.drew.far (by omega) _ _).far (by omega) _ _, (hVe12.drew.far (by omega) _ _).far (by omega) _ _, ?_, ?_, by rw [List.length_append, hI'.out.len]; rfl, hbdn.out, by omega, (hB12.drew.setCell (by simp) _).setCell (by simp) _⟩
          · have hAf := (hA12.drew.put 0 (.int .i64 x.px)).put 1 (.int .i64 x.py)
            rw [show (#[Value.int .i64 ax, Value.int .i64 ay].setIfInBounds 0 (.int .i64 x.px)).setIfInBounds 1 (.int .i64 x.py) = #[.int .i64 x.px, .int .i64 x.py] from rfl] at hAf
            exact hAf
          · rw [htsn.out]
            exact owns_far (owns_far (hO12.out : w12.drew.ownsRow _ _ _ _ _ _) (b := q + 2) (by omega) _ _) (b := q + 2) (by omega) _ _
        case measure => simp [intOf]; omega
    · obtain rfl : k = N := by omega
      have hO := Lib.hid hI'.out.own
      have hP := hI'.out.push
      have hBf := hI'.out.below
      have hp1 := hP.cell 1
      have hp2 := hP.cell 2
      have hp3 := hP.cell 3
      simp at hp1 hp2 hp3
      have hqi := hP.inside
      clear hI
      by_cases hk0 : k = 0
      · subst hk0
        have hfin : Hid (∃ u ts', Ending.returned (.slice xo 0 co) = .returned u ∧ wr.ownsRow q 40 3 u ts'.length (flatT ts') ∧ ts'.length = l.length ∧ ∀ y ∈ ts', TmB y) := Lib.hid ⟨_, ts, rfl, by rw [hI'.out.len]; exact ownsLow hO.out (by omega), by rw [hI'.out.len, hN'.out], fun y hy => (hI'.out.bd y hy).1⟩
        go_wp2
        go_ret
        exact ⟨hfin.out, hBf⟩
      · have hk1 : 0 < k := by omega
        have hk1i : (0 : Int) < k := by omega
        have hOr := hO.out
        obtain ⟨g, rfl, hg3⟩ := ownsOpen hOr hk1
        have hm1 : 0 ≤ A % (k : Int) := Int.emod_nonneg _ (by omega)
        have hm2 : A % (k : Int) < k := Int.emod_lt_of_pos _ hk1i
        obtain ⟨m, hm⟩ : ∃ m : Nat, A % (k : Int) = m := ⟨(A % (k : Int)).toNat, by omega⟩
        have hmk : m < k := by omega
        have hlen := Lib.hid hI'.out.len
        have hbd := Lib.hid hI'.out.bd
        obtain ⟨y, hy⟩ : ∃ y, ts[m]? = some y := ⟨ts[m]'(by rw [hlen.out]; exact hmk), List.getElem?_eq_getElem _⟩
        have hyb := (hbd.out y (List.mem_of_getElem? hy)).2
        obtain ⟨hy1, hy2, hy3, hy4, hy5, hy6⟩ := hyb
        have hz : ((k : Int) == 0) = false := by simp; omega
        obtain ⟨hM1, hM2⟩ := hM
        have hAw : IntKind.i64.wrap A = A := IntWalk.i64_in _ (by omega)
        have hMw : IntKind.i64.wrap M = M := IntWalk.i64_in _ (by omega)
        have hOo := hOr
        clear hm1 hm2 hOr hO
        have hw30 : 0 ≤ Wh % 3 ∧ Wh % 3 < 3 := ⟨Int.emod_nonneg _ (by omega), Int.emod_lt_of_pos _ (by omega)⟩
        rcases (show Wh % 3 = 0 ∨ Wh % 3 = 1 ∨ Wh % 3 = 2 by omega) with hw3 | hw3 | hw3
        · have hcl : wr.cell? ⟨g, m * 3, none⟩ = some (.int .i64 y.ar) := by
            rw [hOo.cellAt (m * 3) (by omega)]
            exact flat_get (m := 3) (fun r hr => by obtain ⟨s, _, rfl⟩ := List.mem_map.1 hr; rfl) m (tmC y) (by rw [List.getElem?_map, hy]; rfl) 0 _ rfl
          have kcl := cell_regrown hcl
          have kp3 := cell_regrown hp3
          have hbdn : Hid (∀ z ∈ ts.set m ⟨y.ar + M, y.be, y.lv⟩, TmB z) := Lib.hid fun z hz => by
            rcases List.mem_or_eq_of_mem_set hz with h1 | rfl
            · exact (hbd.out z h1).1
            · unfold TmB; dsimp only; omega
          have hlen2 : Hid ((ts.set m ⟨y.ar + M, y.be, y.lv⟩).length = l.length) := Lib.hid (by rw [List.length_set, hlen.out, hN'.out])
          go_upto_region 20 with fail
          refine wp_region_below_tail 9 (by kernel_rfl) (by kernel_rfl) (by kernel_rfl) ?_
          simp only [List.take_succ_cons, List.take_zero, List.drop_succ_cons, List.drop_zero]
          repeat (go_big_quiet_step (fail))
          refine wpQuiet_nil ?_
          intro _ hw'
          obtain ⟨⟨dq, osq⟩, hw''⟩ := hw'
          subst hw''
          have hb20 := below_regrown wr dq osq
          have hO20 := owns_below hOo hb20
          have hB20 := hBf.trans (hb20.mono (by omega))
          have hgw : g < (grow (redrawn wr dq) osq).heap.size := own_lt hO20 g rfl
          clear kcl kp3 hcl hp1 hp2 hp3 hOo hb20
          generalize grow (redrawn wr dq) osq = w20 at *
          have hcl : w20.cell? ⟨g, m * 3, none⟩ = some (.int .i64 y.ar) := by
            rw [hO20.cellAt (m * 3) (by omega)]
            exact flat_get (m := 3) (fun r hr => by obtain ⟨s, _, rfl⟩ := List.mem_map.1 hr; rfl) m (tmC y) (by rw [List.getElem?_map, hy]; rfl) 0 _ rfl
          have hfr := hO20.frozenAt (m * 3)
          have hst := (hO20.stored (m * 3) (.int .i64 (y.ar + M))).1
          rw [show (flatT ts).set (m * 3) (.int .i64 (y.ar + M)) = flatT (ts.set m ⟨y.ar + M, y.be, y.lv⟩) from flat_setL (f := tmC) (m := 3) (x := y) (x' := ⟨y.ar + M, y.be, y.lv⟩) (v := .int .i64 (y.ar + M)) (fun _ => rfl) (i := 0) (by decide) rfl hy] at hst
          have hfin : Hid (∃ u ts', Ending.returned (.slice (some ⟨g, 0, none⟩) k co) = .returned u ∧ (w20.setCell ⟨g, m * 3, none⟩ (.int .i64 (y.ar + M))).ownsRow q 40 3 u ts'.length (flatT ts') ∧ ts'.length = l.length ∧ ∀ y ∈ ts', TmB y) :=
            Lib.hid ⟨_, ts.set m ⟨y.ar + M, y.be, y.lv⟩, rfl, by rw [List.length_set, hlen.out]; exact ownsLow hst (by omega), hlen2.out, hbdn.out⟩
          have hB21 := Lib.hid (hB20.setCell (p := ⟨g, m * 3, none⟩) (by simp; omega) (.int .i64 (y.ar + M)))
          clear hst hO20 hB20 hy
          go_wp2
          go_ret
          exact ⟨hfin.out, hB21.out⟩
        · have hcl : wr.cell? ⟨g, m * 3 + 1, none⟩ = some (.int .i64 y.be) := by
            rw [hOo.cellAt (m * 3 + 1) (by omega)]
            exact flat_get (m := 3) (fun r hr => by obtain ⟨s, _, rfl⟩ := List.mem_map.1 hr; rfl) m (tmC y) (by rw [List.getElem?_map, hy]; rfl) 1 _ rfl
          have kcl := cell_regrown hcl
          have kp3 := cell_regrown hp3
          have hbdn : Hid (∀ z ∈ ts.set m ⟨y.ar, y.be + M, y.lv⟩, TmB z) := Lib.hid fun z hz => by
            rcases List.mem_or_eq_of_mem_set hz with h1 | rfl
            · exact (hbd.out z h1).1
            · unfold TmB; dsimp only; omega
          have hlen2 : Hid ((ts.set m ⟨y.ar, y.be + M, y.lv⟩).length = l.length) := Lib.hid (by rw [List.length_set, hlen.out, hN'.out])
          go_upto_region 22 with fail
          refine wp_region_below_tail 9 (by kernel_rfl) (by kernel_rfl) (by kernel_rfl) ?_
          simp only [List.take_succ_cons, List.take_zero, List.drop_succ_cons, List.drop_zero]
          repeat (go_big_quiet_step (fail))
          refine wpQuiet_nil ?_
          intro _ hw'
          obtain ⟨⟨dq, osq⟩, hw''⟩ := hw'
          subst hw''
          have hb20 := below_regrown wr dq osq
          have hO20 := owns_below hOo hb20
          have hB20 := hBf.trans (hb20.mono (by omega))
          have hgw : g < (grow (redrawn wr dq) osq).heap.size := own_lt hO20 g rfl
          clear kcl kp3 hcl hp1 hp2 hp3 hOo hb20
          generalize grow (redrawn wr dq) osq = w20 at *
          have hcl : w20.cell? ⟨g, m * 3 + 1, none⟩ = some (.int .i64 y.be) := by
            rw [hO20.cellAt (m * 3 + 1) (by omega)]
            exact flat_get (m := 3) (fun r hr => by obtain ⟨s, _, rfl⟩ := List.mem_map.1 hr; rfl) m (tmC y) (by rw [List.getElem?_map, hy]; rfl) 1 _ rfl
          have hfr := hO20.frozenAt (m * 3 + 1)
          have hst := (hO20.stored (m * 3 + 1) (.int .i64 (y.be + M))).1
          rw [show (flatT ts).set (m * 3 + 1) (.int .i64 (y.be + M)) = flatT (ts.set m ⟨y.ar, y.be + M, y.lv⟩) from flat_setL (f := tmC) (m := 3) (x := y) (x' := ⟨y.ar, y.be + M, y.lv⟩) (v := .int .i64 (y.be + M)) (fun _ => rfl) (i := 1) (by decide) rfl hy] at hst
          have hfin : Hid (∃ u ts', Ending.returned (.slice (some ⟨g, 0, none⟩) k co) = .returned u ∧ (w20.setCell ⟨g, m * 3 + 1, none⟩ (.int .i64 (y.be + M))).ownsRow q 40 3 u ts'.length (flatT ts') ∧ ts'.length = l.length ∧ ∀ y ∈ ts', TmB y) :=
            Lib.hid ⟨_, ts.set m ⟨y.ar, y.be + M, y.lv⟩, rfl, by rw [List.length_set, hlen.out]; exact ownsLow hst (by omega), hlen2.out, hbdn.out⟩
          have hB21 := Lib.hid (hB20.setCell (p := ⟨g, m * 3 + 1, none⟩) (by simp; omega) (.int .i64 (y.be + M)))
          clear hst hO20 hB20 hy
          go_wp2
          go_ret
          exact ⟨hfin.out, hB21.out⟩
        · have hcl : wr.cell? ⟨g, m * 3 + 2, none⟩ = some (.int .i64 y.lv) := by
            rw [hOo.cellAt (m * 3 + 2) (by omega)]
            exact flat_get (m := 3) (fun r hr => by obtain ⟨s, _, rfl⟩ := List.mem_map.1 hr; rfl) m (tmC y) (by rw [List.getElem?_map, hy]; rfl) 2 _ rfl
          have kcl := cell_regrown hcl
          have kp3 := cell_regrown hp3
          have hbdn : Hid (∀ z ∈ ts.set m ⟨y.ar, y.be, y.lv + M⟩, TmB z) := Lib.hid fun z hz => by
            rcases List.mem_or_eq_of_mem_set hz with h1 | rfl
            · exact (hbd.out z h1).1
            · unfold TmB; dsimp only; omega
          have hlen2 : Hid ((ts.set m ⟨y.ar, y.be, y.lv + M⟩).length = l.length) := Lib.hid (by rw [List.length_set, hlen.out, hN'.out])
          go_upto_region 18 with fail
          refine wp_region_below_tail 9 (by kernel_rfl) (by kernel_rfl) (by kernel_rfl) ?_
          simp only [List.take_succ_cons, List.take_zero, List.drop_succ_cons, List.drop_zero]
          repeat (go_big_quiet_step (fail))
          refine wpQuiet_nil ?_
          intro _ hw'
          obtain ⟨⟨dq, osq⟩, hw''⟩ := hw'
          subst hw''
          have hb20 := below_regrown wr dq osq
          have hO20 := owns_below hOo hb20
          have hB20 := hBf.trans (hb20.mono (by omega))
          have hgw : g < (grow (redrawn wr dq) osq).heap.size := own_lt hO20 g rfl
          clear kcl kp3 hcl hp1 hp2 hp3 hOo hb20
          generalize grow (redrawn wr dq) osq = w20 at *
          have hcl : w20.cell? ⟨g, m * 3 + 2, none⟩ = some (.int .i64 y.lv) := by
            rw [hO20.cellAt (m * 3 + 2) (by omega)]
            exact flat_get (m := 3) (fun r hr => by obtain ⟨s, _, rfl⟩ := List.mem_map.1 hr; rfl) m (tmC y) (by rw [List.getElem?_map, hy]; rfl) 2 _ rfl
          have hfr := hO20.frozenAt (m * 3 + 2)
          have hst := (hO20.stored (m * 3 + 2) (.int .i64 (y.lv + M))).1
          rw [show (flatT ts).set (m * 3 + 2) (.int .i64 (y.lv + M)) = flatT (ts.set m ⟨y.ar, y.be, y.lv + M⟩) from flat_setL (f := tmC) (m := 3) (x := y) (x' := ⟨y.ar, y.be, y.lv + M⟩) (v := .int .i64 (y.lv + M)) (fun _ => rfl) (i := 2) (by decide) rfl hy] at hst
          have hfin : Hid (∃ u ts', Ending.returned (.slice (some ⟨g, 0, none⟩) k co) = .returned u ∧ (w20.setCell ⟨g, m * 3 + 2, none⟩ (.int .i64 (y.lv + M))).ownsRow q 40 3 u ts'.length (flatT ts') ∧ ts'.length = l.length ∧ ∀ y ∈ ts', TmB y) :=
            Lib.hid ⟨_, ts.set m ⟨y.ar, y.be, y.lv + M⟩, rfl, by rw [List.length_set, hlen.out]; exact ownsLow hst (by omega), hlen2.out, hbdn.out⟩
          have hB21 := Lib.hid (hB20.setCell (p := ⟨g, m * 3 + 2, none⟩) (by simp; omega) (.int .i64 (y.lv + M)))
          clear hst hO20 hB20 hy
          go_wp2
          go_ret
          exact ⟨hfin.out, hB21.out⟩

end Go.Proofs.YteefkijmodcijaaDoor.Feas

/-
  What the laws' draft makes of its loads, bytes and stops: a table, and three rows.
-/
import Derived.Test.YtphfjaelglafnaaDoorLoadLaw
import Derived.Test.YtphfjaelglafnaaDoorTail
import Derived.Test.YtphfjaelglafnaaDoorSched
import Derived.Deep.CutRange
namespace Go.Proofs.YtphfjaelglafnaaDoor.Load
open Go.RowKit Go.Sort Go.Proofs.YtphfjaelglafnaaDoor.Mem Go.Proofs.YtphfjaelglafnaaDoor.Route Go.Proofs.YtphfjaelglafnaaDoor.When Go.Proofs.YtphfjaelglafnaaDoor.Tail
set_option linter.unusedVariables false

theorem flat_setL {α : Type} {f : α → List Value} {m : Nat} (hf : ∀ x, (f x).length = m) {x x' : α} {i : Nat} {v : Value} (hi : i < m) (hx' : (f x).set i v = f x') : ∀ {l : List α} {j : Nat}, l[j]? = some x → ((l.map f).flatten).set (j * m + i) v = ((l.set j x').map f).flatten
  | [], _, h => by simp at h
  | y :: l, 0, h => by
    have e : y = x := by simpa using h
    subst e
    simp only [List.map_cons, List.flatten_cons, List.set_cons_zero, Nat.zero_mul, Nat.zero_add]
    rw [List.set_append_left _ _ (by rw [hf]; exact hi), hx']
  | y :: l, j + 1, h => by
    have h' : l[j]? = some x := by simpa using h
    have ih := flat_setL hf hi hx' h'
    simp only [List.map_cons, List.flatten_cons, List.set_cons_succ]
    rw [List.set_append_right _ _ (by rw [hf, Nat.add_mul]; omega), hf, show (j + 1) * m + i - m = j * m + i by rw [Nat.add_mul]; omega, ih]
theorem numsSet {l : List (Int × Int)} (h : Nums l) (j : Nat) {s : Int × Int} (hs : I64 s.1 ∧ I64 s.2) : Nums (l.set j s) := by
  intro t ht
  rcases List.mem_or_eq_of_mem_set ht with h1 | rfl
  · exact h t h1
  · exact hs
theorem ownsNil {W : World} {base n : Nat} {e : TypeId} (hn : n = W.heap.size) (hb : base ≤ n) : (W.alloc (.cells #[] e)).ownsRow base e 2 (.slice (some ⟨n, 0, none⟩) 0 0) 0 [] := by
  subst hn
  exact ⟨rfl, .inr ⟨W.heap.size, 0, #[], rfl, hb, heap_alloc_new W _, Nat.le_refl _, Nat.zero_le _, rfl, rfl⟩⟩
theorem ownsLt {W : World} {base size k : Nat} {e : TypeId} {v : Value} {xs : List Value} (h : W.ownsRow base e size v k xs) : ∀ r, v.ownBlock = some r → r < W.heap.size := by
  obtain ⟨hl, ⟨rfl, h0⟩ | ⟨g, cap, cur, rfl, hb, hg, hr⟩⟩ := h
  · intro r e; cases e
  · intro r e
    simp only [Value.ownBlock, Option.some.injEq] at e
    subst e
    exact (Array.getElem?_eq_some_iff.1 hg).1
theorem ownsOpen {W : World} {base n cap : Nat} {e : TypeId} {size : Nat} {x : Option Addr} {xs : List Value} (h : W.ownsRow base e size (.slice x n cap) n xs) (hn : 0 < n) : ∃ g : Nat, x = some ⟨g, 0, none⟩ ∧ base ≤ g := by
  obtain ⟨hl, ⟨e, h0⟩ | ⟨g, cap', cur, e, hb, _⟩⟩ := h
  · omega
  · simp only [Value.slice.injEq] at e
    exact ⟨g, e.1, hb⟩
theorem ownsFar {A : World} {base size k : Nat} {e : TypeId} {v : Value} {xs : List Value} (h : A.ownsRow base e size v k xs) {b : Nat} (hb : ∀ r, v.ownBlock = some r → r ≠ b) (i : Nat) (x : Value) : (A.setCell ⟨b, i, none⟩ x).ownsRow base e size v k xs := by
  obtain ⟨hl, h1 | ⟨g, cap, cur, rfl, hg1, hg, hr⟩⟩ := h
  · exact ⟨hl, .inl h1⟩
  · exact ⟨hl, .inr ⟨g, cap, cur, rfl, hg1, (Below.heap_setCell _ _ _ _ (hb g rfl)).trans hg, hr⟩⟩
/-- A store elsewhere leaves a row as it is. -/
theorem RowB.far {B : Nat} {W : World} {v : Value} {m : Nat} {rows : List (List Value)} (h : RowB B W v m rows) {b : Nat} (hb : ∀ q, v.ownBlock = some q → q ≠ b) (i : Nat) (x : Value) : RowB B (W.setCell ⟨b, i, none⟩ x) v m rows := by
  obtain ⟨y, cap, rfl, h1, h2, h0, h3⟩ := h
  refine ⟨y, cap, rfl, h1, h2, h0, fun j r hj => ?_⟩
  obtain ⟨g, o, rfl, hg, hc⟩ := h3 j r hj
  refine ⟨g, o, rfl, hg, fun k u hk => ?_⟩
  have e := Below.heap_setCell W ⟨b, i, none⟩ x g (hb g rfl)
  rw [← hc k u hk]
  simp only [World.cell?, e]

/-- A row of thirty stops at most. -/
def RowOk (W : World) (v : Value) : Prop := ∃ l, Row W.heap.size W v l ∧ Nums l ∧ l.length ≤ 30
theorem RowOk.on {W V : World} {v : Value} (h : RowOk W v) (hb : Below W.heap.size W V) : RowOk V v := h.elim fun l h => ⟨l, h.1.on hb, h.2⟩

theorem res_parts {fn : Func} {p c : Tmp} (h : fn.results = #[.tmp c, .cell p 34]) {tmps : Array Value} {w : World} {g : Nat} {x0 x1 x2 b : Value} (hp : tmps.getD p undef = .pointer (some ⟨g, 0, none⟩)) (hc : tmps.getD c undef = b)
    (hA : At w g 34 #[x0, x1, x2]) : (results fn tmps).run Tryd.prog w = .ok (.tuple #[b, .agg #[x0, x1, x2]]) w := by
  have hp' : tmps[p]?.getD undef = .pointer (some ⟨g, 0, none⟩) := by simpa using hp
  have hc' : tmps[c]?.getD undef = b := by simpa using hc
  have c0 := hA.cell 0
  have c1 := hA.cell 1
  have c2 := hA.cell 2
  simp at c0 c1 c2
  simp only [results, h]
  go_simp

/-- What the operations leave that lay the three rows. -/
def VParts (T Y X S S2 A : Value) (n NS M : Nat) : Nat → Value → Prop
  | 0, y => y = T
  | 1, y => y = Y
  | 2, y => y = X
  | 3, y => y = .pointer (some ⟨n, 6, none⟩)
  | 4, y => y = S
  | 5, y => y = .pointer (some ⟨n, 6, none⟩)
  | 6, y => y = S
  | 7, y => y = .int .i64 NS
  | 8, y => y = .int .i64 M
  | 9, y => y = S2
  | 10, y => y = A
  | 11, y => y = T
  | _, _ => True
theorem belowBoth {a b c : World} (h : Below a.heap.size a b) (k : Below b.heap.size b c) : Below a.heap.size a c := h.trans (k.mono h.size)

set_option maxRecDepth 100000 in
set_option maxHeartbeats 8000000 in
theorem parts_any (vL vB vS : Value) (cp t0 t1 t2 : Int) (ht0 : 0 ≤ t0 ∧ t0 ≤ 255) (ht1 : 0 ≤ t1 ∧ t1 ≤ 255) (ht2 : 0 ≤ t2 ∧ t2 ≤ 255) (ns bs : List Int) (l : List (Int × Int)) (hn : ∀ x ∈ ns, 0 ≤ x ∧ x < 65536) (hb : ∀ x ∈ bs, 0 ≤ x ∧ x < 256) (hnum : Nums l) (w : World)
    (hL : RowB w.heap.size w vL 1 (ns.map wdV)) (hBs : RowB w.heap.size w vB 1 (bs.map byV)) (hS : Row w.heap.size w vS l) :
    Calls Tryd.prog 7 #[.agg #[vL, vB, .int .u16 cp, .int .u8 t0, .int .u8 t1, .int .u8 t2, vS]] w fun e w' => (∃ u r0 r1 r2, e = .returned (.tuple #[u, .agg #[r0, r1, r2]]) ∧ (∃ T, Rqs w'.heap.size w' u T) ∧ RowOk w' r0 ∧ RowOk w' r1 ∧ RowOk w' r2) ∧ Below w.heap.size w w' := by
  obtain ⟨i0, hi, hz0, hz1, hz2⟩ := info_parts info_stop
  have hM := Lib.hid (fun w' (hb' : Below w.heap.size w w') => Made_new vB bs hb w' ((hBs.keep hb' (Nat.le_refl _)).more hb'.size))
  have hTb := Lib.hid (fun w' (hb' : Below w.heap.size w w') => table_tab vL ns hn w' ((hL.keep hb' (Nat.le_refl _)).more hb'.size))
  obtain ⟨xS, NS, cS, rfl, hNS, hS0, hSc1, hSc2⟩ := hS.opened
  have hS' := Lib.hid hS
  have hnum' := Lib.hid hnum
  obtain ⟨xL, NL, cL, rfl⟩ : ∃ x n c, vL = .slice x n c := by obtain ⟨x, c, e, _⟩ := hL; exact ⟨_, _, _, e⟩
  obtain ⟨xB, NB, cB, rfl⟩ : ∃ x n c, vB = .slice x n c := by obtain ⟨x, c, e, _⟩ := hBs; exact ⟨_, _, _, e⟩
  unfold maxLen at hSc2
  clear hL hBs hS hn hb hnum hS0
  obtain ⟨n, hn⟩ : ∃ n, w.heap.size = n := ⟨_, rfl⟩
  obtain ⟨w1, hw1⟩ : ∃ w1, (w.alloc (.cells #[.slice xL NL cL, .slice xB NB cB, .int .u16 cp, .int .u8 t0, .int .u8 t1, .int .u8 t2, .slice xS NS cS] 28)).alloc (.cells #[.slice none 0 0, .slice none 0 0, .slice none 0 0] 34) = w1 := ⟨_, rfl⟩
  have hA0 : At w1 n 28 #[.slice xL NL cL, .slice xB NB cB, .int .u16 cp, .int .u8 t0, .int .u8 t1, .int .u8 t2, .slice xS NS cS] := by rw [← hw1]; exact (At.new_ _ _ _ hn.symm).alloc _
  have hR0 : At w1 (n + 1) 34 #[.slice none 0 0, .slice none 0 0, .slice none 0 0] := by rw [← hw1]; exact At.new_ _ _ _ (by simp [hn])
  have hB1 : Below w.heap.size w w1 := by rw [← hw1]; exact ((Below.refl _ _).alloc (Nat.le_refl _) _).alloc (by simp) _
  have hw1' := Lib.hid hw1
  have hn' := Lib.hid hn
  have hnw : w.heap.size ≤ n := by omega
  clear hw1
  have c0 := hA0.cell 0
  have c1 := hA0.cell 1
  simp at c0 c1
  have hai := hA0.inside
  have hri := hR0.inside
  go_enter Tryd.func7, Tryd.ntmps7
  go_upto_region 1 with fail
  rw [hw1'.out]
  go_wp2_with fail
  refine (hTb.out w1 hB1).mono ?_
  rintro e w2 ⟨⟨u, rfl, hu⟩, hb2⟩
  obtain ⟨T, xT, cT, hok, hT12, rfl, hownT⟩ := hu
  obtain ⟨N, hN⟩ : ∃ N, T.length = N := ⟨_, rfl⟩
  rw [hN] at hownT hT12 ⊢
  have hN' := Lib.hid hN
  have hB2 := hB1.trans (hb2.mono hB1.size)
  have hA2 := hA0.keep hb2 hai
  have hR2 := hR0.keep hb2 hri
  have hai2 := hA2.inside
  have hri2 := hR2.inside
  have c1 := hA2.cell 1
  simp at c1
  have hTlt := Lib.hid (ownsLt hownT)
  have hTlo := Lib.hid (owns_row hownT)
  have hs12 := hb2.size
  have hnw1 : n + 1 < w1.heap.size := hri
  clear hTb hb2 hA0 hR0 hok hN c0 hai hri
  go_wp2_with fail
  refine (hM.out w2 hB2).mono ?_
  clear hM c1
  rintro e w3 ⟨⟨v3, rfl, ⟨m, k, hMr, hD, hk6, -⟩, hnew⟩, hb3⟩
  have hB3 := hB2.trans (hb3.mono hB2.size)
  have hA3 := hA2.keep hb3 hai2
  have hR3 := hR2.keep hb3 hri2
  have hai3 := hA3.inside
  have hri3 := hR3.inside
  have hownT3 := Lib.hid (owns_below hownT hb3)
  obtain ⟨y, L, cl, rfl, hLl, hy0, hc3, hc4⟩ := hMr.opened
  obtain rfl : L = 2 * k := by rw [← hLl.out, hD.2.1]
  have hmn := Lib.hid (hD.nums hk6)
  have hMr' := Lib.hid hMr
  have hnew' := Lib.hid hnew
  have hs23 := hb3.size
  have hs3 := hB3.size
  have hpl := hMr.plain
  clear hb3 hA2 hR2 hD hMr hnew hownT hB2 hB1
  go_upto_region 3 with fail
  have hM2 := Lib.hid (hMr'.out.on ((Below.refl _ _).alloc (Nat.le_refl _) (.cells #[] 58)))
  go_upto_region 4 with (at_builtin; refine wpList_append_plain rfl _ _ 26 rfl w3.heap.size 58 i0 (.agg #[.int .i64 0, .int .i64 0]) 2 16 Tryd.underlying26 hi hz0 hz1 hz2 rfl (by decide) _ _ _ rfl (ownsNil (W := w3) rfl (Nat.le_refl _)) (.slice y (2 * k) cl) (2 * k) ⟨_, _, rfl⟩ hpl (flatS m) rfl (by rw [flatS_length, hLl.out]) (fun ad c e => by have h := hM2.out; rw [e] at h; exact h.flat) flatS_one (by unfold maxLen; omega) (by omega) (by simp) ?_; intro v8 w8 hown8 hgrow8)
  have hb8 : Below w3.heap.size w3 w8 := ((Below.refl _ _).alloc (Nat.le_refl _) _).grown hgrow8 (by simp) (fun r e => by cases e; exact Nat.le_refl _)
  rw [Nat.zero_add, List.nil_append] at hown8
  have hA8 := hA3.keep hb8 hai3
  have hR8 := hR3.keep hb8 hri3
  have hai8 := hA8.inside
  have hri8 := hR8.inside
  have hB8 := hB3.trans (hb8.mono hs3)
  have hownT8 := Lib.hid (owns_below hownT3.out hb8)
  have hM8 := Lib.hid (hMr'.out.on hb8)
  have hown8' := Lib.hid hown8
  have hs8 := hb8.size
  obtain ⟨x8, c8, rfl, _⟩ := ownSlice hown8
  have hA3' := Lib.hid hA3
  have hR3' := Lib.hid hR3
  have hB3' := Lib.hid hB3
  clear hown8 hgrow8 hpl hA3 hR3 hM2 hB3
  have d3 := hA8.cell 3
  simp at d3
  go_cut [25] from 16 (fun s25 wx => s25 = .bool (decide (0 < k) && (t0 % 3 == 0)) ∧ wx = w8)
  case first =>
    by_cases hk0 : 0 < k
    · have t1 : decide (0 < 2 * (k : Int)) = true := by simp; omega
      have t2 : decide (0 < k) = true := by simpa using hk0
      go_wp2
      all_goals go_meet
      exact ⟨by rw [t2]; rfl, rfl⟩
    · have t1 : decide (0 < 2 * (k : Int)) = false := by simp; omega
      have t2 : decide (0 < k) = false := by simpa using hk0
      go_wp2
      all_goals go_meet
      exact ⟨by rw [t2]; rfl, rfl⟩
  case rest =>
    obtain ⟨rfl, hwc⟩ := hcut
    obtain rfl : w8 = wc := hwc.symm
    obtain ⟨b0, hb0⟩ : ∃ b, (decide (0 < k) && (t0 % 3 == 0)) = b := ⟨_, rfl⟩
    rw [hb0]
    have hb0' := Lib.hid hb0
    clear hb0 d3
    go_upto_if 25 with fail
    go_cut [6] from 26 (fun s6 wx => s6 = .slice x8 (2 * k) c8 ∧ ∃ m', m'.length = 2 * k ∧ Nums m' ∧ wx.ownsRow w3.heap.size 58 2 (.slice x8 (2 * k) c8) (2 * k) (flatS m') ∧ Below w3.heap.size w3 wx)
    case first =>
      cases b0
      · go_wp2
        all_goals go_meet
        exact ⟨rfl, m, hLl.out, hmn.out, by rw [← hLl.out]; rw [hLl.out]; exact hown8'.out, hb8⟩
      · have hk0 : 0 < k := by
          have := hb0'.out
          simp at this
          exact this.1
        obtain ⟨g, rfl, hg3⟩ := ownsOpen hown8'.out (by omega)
        have c3 := hA8.cell 3
        have c4 := hA8.cell 4
        have c5 := hA8.cell 5
        simp at c3 c4 c5
        have hX1 : 0 ≤ t1 % (2 * (k : Int)) := Int.emod_nonneg _ (by omega)
        have hX2 : t1 % (2 * (k : Int)) < 2 * (k : Int) := Int.emod_lt_of_pos _ (by omega)
        obtain ⟨j, hj⟩ : ∃ j : Nat, t1 % (2 * (k : Int)) = j := ⟨(t1 % (2 * (k : Int))).toNat, by omega⟩
        have hj2 : j < 2 * k := by omega
        have hk2 : (0 : Int) < 2 * (k : Int) := by omega
        have kc4 := cell_regrown c4
        have kc5 := cell_regrown c5
        go_upto_region 5 with fail
        refine wp_region_below_tail 13 (by kernel_rfl) (by kernel_rfl) (by kernel_rfl) ?_
        simp only [List.take_succ_cons, List.take_zero, List.drop_succ_cons, List.drop_zero]
        repeat (go_big_quiet_step (fail))
        refine wpQuiet_nil ?_
        intro _ hw'
        obtain ⟨⟨dq, osq⟩, hw''⟩ := hw'
        subst hw''
        rw [hj]
        have hbt := below_regrown w8 dq osq
        have hot := owns_below hown8'.out hbt
        have hBt := hb8.trans (hbt.mono hs8)
        clear kc4 kc5 c3 c4 c5 hX1 hX2 hbt
        generalize grow (redrawn w8 dq) osq = wt at *
        obtain ⟨⟨s1, s2⟩, hs⟩ : ∃ s, m[j]? = some s := ⟨m[j]'(by rw [hLl.out]; exact hj2), List.getElem?_eq_getElem _⟩
        have cv := hot.cellAt (j * 2) (by omega)
        rw [show (flatS m)[j * 2]? = some (.int .i64 s1) from flat_get (m := 2) (fun r hr => by obtain ⟨s, _, rfl⟩ := List.mem_map.1 hr; rfl) j (stV (s1, s2)) (by rw [List.getElem?_map, hs]; rfl) 0 _ rfl] at cv
        have cf := hot.frozenAt (j * 2)
        have hgt : g < wt.heap.size := ownsLt hot g rfl
        have hst := hot.stored (j * 2) (.int .i64 (t2 % 9))
        rw [show (flatS m).set (j * 2) (.int .i64 (t2 % 9)) = flatS (m.set j (t2 % 9, s2)) from flat_setL (f := stV) (m := 2) (x := (s1, s2)) (x' := (t2 % 9, s2)) (v := .int .i64 (t2 % 9)) (fun _ => rfl) (i := 0) (by decide) rfl hs] at hst
        have hms := Lib.hid (hmn.out _ (List.mem_of_getElem? hs))
        have hst' := Lib.hid hst.1
        clear hs hst hot hj
        go_wp2
        all_goals go_meet
        exact ⟨rfl, m.set j (t2 % 9, s2), by rw [List.length_set]; exact hLl.out, numsSet hmn.out j ⟨by show I64 (t2 % 9); unfold I64; omega, hms.out.2⟩, hst'.out, hBt.setCell (by simpa using hg3) _⟩
    case rest =>
      obtain ⟨rfl, m2, hm2l, hm2n, hown9, hb9⟩ := hcut
      have hB9 := hB3'.out.trans (hb9.mono hs3)
      have hA9 := hA3'.out.keep hb9 hai3
      have hR9 := hR3'.out.keep hb9 hri3
      have hT9 := owns_below hownT3.out hb9
      have hM9 := Lib.hid (hMr'.out.on hb9)
      have hown9' := Lib.hid hown9
      have hm2l' := Lib.hid hm2l
      have hm2n' := Lib.hid hm2n
      have hs39 := hb9.size
      obtain ⟨w9, rfl⟩ : ∃ w9, w9 = wc := ⟨_, rfl⟩
      have d3 := hA9.cell 3
      simp at d3
      clear hA8 hR8 hB8 hownT8 hM8 hown8' hb8 hown9 hm2l hm2n hb9 hA3' hR3' hB3' hownT3 hMr' hb0' hs8 hai8 hri8 hai3 hri3
      have hai9 := hA9.inside
      have hri9 := hR9.inside
      go_upto_region 6 with fail
      go_cut [50] from 41 (fun s50 wx => s50 = .bool (decide (0 < N) && (t0 % 3 == 1)) ∧ wx = w9)
      case first =>
        by_cases hk0 : 0 < N
        · have t1 : decide (0 < (N : Int)) = true := by simp; omega
          have t2 : decide (0 < N) = true := by simpa using hk0
          go_wp2
          all_goals go_meet
          exact ⟨by rw [t2]; rfl, rfl⟩
        · have t1 : decide (0 < (N : Int)) = false := by simp; omega
          have t2 : decide (0 < N) = false := by simpa using hk0
          go_wp2
          all_goals go_meet
          exact ⟨by rw [t2]; rfl, rfl⟩
      case rest =>
        obtain ⟨rfl, hwc⟩ := hcut
        obtain rfl : w9 = wc := hwc.symm
        obtain ⟨b1, hb1⟩ : ∃ b, (decide (0 < N) && (t0 % 3 == 1)) = b := ⟨_, rfl⟩
        rw [hb1]
        have hb1' := Lib.hid hb1
        have hA9' := Lib.hid hA9
        have hR9' := Lib.hid hR9
        have hT9' := Lib.hid hT9
        clear hb1 d3
        go_upto_if 50 with fail
        go_cut [4] from 51 (fun s4 wx => s4 = .slice xT N cT ∧ (∃ T', T'.length = N ∧ wx.ownsRow w1.heap.size 55 10 (.slice xT N cT) N (flatQ T')) ∧ At wx n 28 #[.slice xL NL cL, .slice xB NB cB, .int .u16 cp, .int .u8 t0, .int .u8 t1, .int .u8 t2, .slice xS NS cS] ∧ At wx (n + 1) 34 #[.slice none 0 0, .slice none 0 0, .slice none 0 0] ∧ Row wx.heap.size wx (.slice y (2 * k) cl) m ∧ Row wx.heap.size wx (.slice x8 (2 * k) c8) m2 ∧ Below w.heap.size w wx)
        case first =>
          cases b1
          · go_wp2
            all_goals go_meet
            exact ⟨rfl, ⟨T, hN'.out, hT9'.out⟩, hA9'.out, hR9'.out, hM9.out, Row.of_owns hown9'.out hm2l'.out.symm (Nat.le_refl _), hB9⟩
          · have hk0 : 0 < N := by
              have := hb1'.out
              simp at this
              exact this.1
            obtain ⟨g, rfl, hg1⟩ := ownsOpen hT9'.out (by omega)
            have c3 := hA9.cell 3
            have c4 := hA9.cell 4
            simp at c3 c4
            have hX1 : 0 ≤ t1 % (N : Int) := Int.emod_nonneg _ (by omega)
            have hX2 : t1 % (N : Int) < (N : Int) := Int.emod_lt_of_pos _ (by omega)
            obtain ⟨j, hj⟩ : ∃ j : Nat, t1 % (N : Int) = j := ⟨(t1 % (N : Int)).toNat, by omega⟩
            have hj2 : j < N := by omega
            have hk2 : (0 : Int) < (N : Int) := by omega
            go_upto_region 7 with fail
            obtain ⟨q, hq⟩ : ∃ q, T[j]? = some q := ⟨T[j]'(by rw [hN'.out]; exact hj2), List.getElem?_eq_getElem _⟩
            have cv := hT9.cellAt (j * 10 + 8) (by omega)
            rw [show (flatQ T)[j * 10 + 8]? = some (.int .i64 q.ld) from flat_get (m := 10) (fun r hr => by obtain ⟨s, _, rfl⟩ := List.mem_map.1 hr; rfl) j (rqV q) (by rw [List.getElem?_map, hq]; rfl) 8 _ rfl] at cv
            have cf := hT9.frozenAt (j * 10 + 8)
            have hgt : g < w9.heap.size := ownsLt hT9 g rfl
            have hg2 : g < w2.heap.size := hTlt.out g rfl
            have hst := hT9.stored (j * 10 + 8) (.int .i64 0)
            rw [show (flatQ T).set (j * 10 + 8) (.int .i64 0) = flatQ (T.set j { q with ld := 0 }) from flat_setL (f := rqV) (m := 10) (x := q) (x' := { q with ld := 0 }) (v := .int .i64 0) (fun _ => rfl) (i := 8) (by decide) rfl hq] at hst
            have hst' := Lib.hid hst.1
            clear hq hst hT9 hT9' hA9 hR9
            go_wp2
            all_goals go_meet
            have hB9' := Lib.hid (hB9.setCell (p := ⟨g, j * 10 + 8, none⟩) (by show w.heap.size ≤ g; omega) (.int .i64 0))
            have hsz9 : (w9.setCell ⟨g, j * 10 + 8, none⟩ (.int .i64 0)).heap.size = w9.heap.size := by simp
            refine ⟨rfl, ⟨_, by rw [List.length_set]; exact hN'.out, hst'.out⟩, hA9'.out.far (by omega) _ _, hR9'.out.far (by omega) _ _, ?_, ?_, hB9'.out⟩
            · rw [hsz9]
              exact RowB.far hM9.out (fun q e => by have := hnew'.out q e; omega) _ _
            · rw [hsz9]
              exact RowB.far (Row.of_owns hown9'.out hm2l'.out.symm (Nat.le_refl _)) (fun q e => by have := owns_row hown9'.out q e; omega) _ _
        case rest =>
          obtain ⟨rfl, ⟨T', hT'l, hown'⟩, hA', hR', hM', hW', hB'⟩ := hcut
          have hTr := Lib.hid (Rqs.of_owns hown' hT'l.symm (Nat.le_refl _))
          have hM'' := Lib.hid hM'
          have hW'' := Lib.hid hW'
          have hR'' := Lib.hid hR'
          have hB'' := Lib.hid hB'
          have hA'' := Lib.hid hA'
          have hXlo := Lib.hid (owns_row hown9'.out)
          have c6 := hA'.cell 6
          simp at c6
          have hSM : min (NS : Int) 20 = ((min NS 20 : Nat) : Int) := by omega
          clear hown' hT'l hM' hW' hA' hA9 hR9 hT9 hT9' hA9' hR9' hB9 hown9' hM9 hb1' hR' hB'
          obtain ⟨M, hM0⟩ : ∃ M, min NS 20 = M := ⟨_, rfl⟩
          rw [hM0] at hSM
          have hMN : M ≤ NS := by omega
          have hM20 : M ≤ 20 := by omega
          go_upto_region 8 with fail
          refine Sched.wp_region_sched 12 (fun W V => Below W.heap.size W V) (fun i v _ => VParts (.slice xT N cT) (.slice y (2 * k) cl) (.slice x8 (2 * k) c8) (.slice xS NS cS) (.slice xS M cS) (.agg #[.slice y (2 * k) cl, .slice x8 (2 * k) c8, .slice xS M cS]) n NS M i v) (fun _ _ _ => True) (by kernel_rfl) (by kernel_rfl) (by kernel_rfl) (fun h1 h2 => belowBoth h1 h2) (fun h1 _ => h1) (Below.refl _ _).drew (fun _ => trivial) (Sched.StepsA.steps (by kernel_rfl) ?hS8) ?hQ8
          case hS8 =>
            simp only [List.take_succ_cons, List.take_zero]
            refine ⟨?_, ?_, ?_, ?_, ?_, ?_, ?_, ?_, ?_, ?_, ?_, ?_, trivial⟩
            · intro ys done W aa hE hn hF hD hZ hG hO
              replace hE : Below wc.heap.size wc W := hE
              have o1 := hO 4 (by kernel_rfl)
              replace o1 : aa.tmps[4]? = some (.slice xT N cT) := o1
              go_wp2_with fail
              first | exact ⟨_, rfl, Below.refl _ _, rfl, trivial⟩ | exact ⟨_, rfl, Below.refl _ _, rfl⟩
            · intro ys done W aa hE hn hF hD hZ hG hO
              replace hE : Below wc.heap.size wc W := hE
              have o1 := hO 5 (by kernel_rfl)
              replace o1 : aa.tmps[5]? = some (.slice y (2 * k) cl) := o1
              go_wp2_with fail
              first | exact ⟨_, rfl, Below.refl _ _, rfl, trivial⟩ | exact ⟨_, rfl, Below.refl _ _, rfl⟩
            · intro ys done W aa hE hn hF hD hZ hG hO
              replace hE : Below wc.heap.size wc W := hE
              have o1 := hO 6 (by kernel_rfl)
              replace o1 : aa.tmps[6]? = some (.slice x8 (2 * k) c8) := o1
              go_wp2_with fail
              first | exact ⟨_, rfl, Below.refl _ _, rfl, trivial⟩ | exact ⟨_, rfl, Below.refl _ _, rfl⟩
            · intro ys done W aa hE hn hF hD hZ hG hO
              replace hE : Below wc.heap.size wc W := hE
              have o1 := hO 1 (by kernel_rfl)
              replace o1 : aa.tmps[1]? = some (.pointer (some ⟨n, 0, none⟩)) := o1
              go_wp2_with fail
              first | exact ⟨_, rfl, Below.refl _ _, rfl, trivial⟩ | exact ⟨_, rfl, Below.refl _ _, rfl⟩
            · intro ys done W aa hE hn hF hD hZ hG hO
              replace hE : Below wc.heap.size wc W := hE
              have v3 := hF 3 (by decide) (hD 3 (by kernel_rfl))
              replace v3 : ys 3 = .pointer (some ⟨n, 6, none⟩) := v3
              have g3 := hG 3 64 rfl (Nat.le_of_ble_eq_true rfl)
              rw [v3] at g3
              have e6 := (hA''.out.keep hE hA''.out.inside).cell 6
              simp at e6
              go_wp2_with fail
              first | exact ⟨_, rfl, Below.refl _ _, rfl, trivial⟩ | exact ⟨_, rfl, Below.refl _ _, rfl⟩
            · intro ys done W aa hE hn hF hD hZ hG hO
              replace hE : Below wc.heap.size wc W := hE
              have o1 := hO 1 (by kernel_rfl)
              replace o1 : aa.tmps[1]? = some (.pointer (some ⟨n, 0, none⟩)) := o1
              go_wp2_with fail
              first | exact ⟨_, rfl, Below.refl _ _, rfl, trivial⟩ | exact ⟨_, rfl, Below.refl _ _, rfl⟩
            · intro ys done W aa hE hn hF hD hZ hG hO
              replace hE : Below wc.heap.size wc W := hE
              have v5 := hF 5 (by decide) (hD 5 (by kernel_rfl))
              replace v5 : ys 5 = .pointer (some ⟨n, 6, none⟩) := v5
              have g5 := hG 5 66 rfl (Nat.le_of_ble_eq_true rfl)
              rw [v5] at g5
              have e6 := (hA''.out.keep hE hA''.out.inside).cell 6
              simp at e6
              go_wp2_with fail
              first | exact ⟨_, rfl, Below.refl _ _, rfl, trivial⟩ | exact ⟨_, rfl, Below.refl _ _, rfl⟩
            · intro ys done W aa hE hn hF hD hZ hG hO
              replace hE : Below wc.heap.size wc W := hE
              have v6 := hF 6 (by decide) (hD 6 (by kernel_rfl))
              replace v6 : ys 6 = .slice xS NS cS := v6
              have g6 := hG 6 67 rfl (Nat.le_of_ble_eq_true rfl)
              rw [v6] at g6
              go_wp2_with fail
              first | exact ⟨_, rfl, Below.refl _ _, rfl, trivial⟩ | exact ⟨_, rfl, Below.refl _ _, rfl⟩
            · intro ys done W aa hE hn hF hD hZ hG hO
              replace hE : Below wc.heap.size wc W := hE
              have v7 := hF 7 (by decide) (hD 7 (by kernel_rfl))
              replace v7 : ys 7 = .int .i64 NS := v7
              have g7 := hG 7 68 rfl (Nat.le_of_ble_eq_true rfl)
              rw [v7] at g7
              go_wp2_with fail
              first | exact ⟨_, rfl, Below.refl _ _, rfl, trivial⟩ | exact ⟨_, rfl, Below.refl _ _, rfl⟩
            · intro ys done W aa hE hn hF hD hZ hG hO
              replace hE : Below wc.heap.size wc W := hE
              have v4 := hF 4 (by decide) (hD 4 (by kernel_rfl))
              replace v4 : ys 4 = .slice xS NS cS := v4
              have g4 := hG 4 65 rfl (Nat.le_of_ble_eq_true rfl)
              rw [v4] at g4
              have v8 := hF 8 (by decide) (hD 8 (by kernel_rfl))
              replace v8 : ys 8 = .int .i64 M := v8
              have g8 := hG 8 69 rfl (Nat.le_of_ble_eq_true rfl)
              rw [v8] at g8
              go_wp2_with fail
              first | exact ⟨_, rfl, Below.refl _ _, rfl, trivial⟩ | exact ⟨_, rfl, Below.refl _ _, rfl⟩
            · intro ys done W aa hE hn hF hD hZ hG hO
              replace hE : Below wc.heap.size wc W := hE
              have v1 := hF 1 (by decide) (hD 1 (by kernel_rfl))
              replace v1 : ys 1 = .slice y (2 * k) cl := v1
              have g1 := hG 1 62 rfl (Nat.le_of_ble_eq_true rfl)
              rw [v1] at g1
              have v2 := hF 2 (by decide) (hD 2 (by kernel_rfl))
              replace v2 : ys 2 = .slice x8 (2 * k) c8 := v2
              have g2 := hG 2 63 rfl (Nat.le_of_ble_eq_true rfl)
              rw [v2] at g2
              have v9 := hF 9 (by decide) (hD 9 (by kernel_rfl))
              replace v9 : ys 9 = .slice xS M cS := v9
              have g9 := hG 9 70 rfl (Nat.le_of_ble_eq_true rfl)
              rw [v9] at g9
              go_wp2_with fail
              first | exact ⟨_, rfl, Below.refl _ _, rfl, trivial⟩ | exact ⟨_, rfl, Below.refl _ _, rfl⟩
            · intro ys done W aa hE hn hF hD hZ hG hO
              replace hE : Below wc.heap.size wc W := hE
              have v0 := hF 0 (by decide) (hD 0 (by kernel_rfl))
              replace v0 : ys 0 = .slice xT N cT := v0
              have g0 := hG 0 61 rfl (Nat.le_of_ble_eq_true rfl)
              rw [v0] at g0
              go_wp2_with fail
              first | exact ⟨_, rfl, Below.refl _ _, rfl, trivial⟩ | exact ⟨_, rfl, Below.refl _ _, rfl⟩
          case hQ8 =>
            intro ys w6 hE hF _
            replace hE : Below wc.heap.size wc w6 := hE
            have v0 : ys 0 = .slice xT N cT := hF 0 (by decide)
            have v1 : ys 1 = .slice y (2 * k) cl := hF 1 (by decide)
            have v2 : ys 2 = .slice x8 (2 * k) c8 := hF 2 (by decide)
            have v3 : ys 3 = .pointer (some ⟨n, 6, none⟩) := hF 3 (by decide)
            have v4 : ys 4 = .slice xS NS cS := hF 4 (by decide)
            have v5 : ys 5 = .pointer (some ⟨n, 6, none⟩) := hF 5 (by decide)
            have v6 : ys 6 = .slice xS NS cS := hF 6 (by decide)
            have v7 : ys 7 = .int .i64 NS := hF 7 (by decide)
            have v8 : ys 8 = .int .i64 M := hF 8 (by decide)
            have v9 : ys 9 = .slice xS M cS := hF 9 (by decide)
            have v10 : ys 10 = .agg #[.slice y (2 * k) cl, .slice x8 (2 * k) c8, .slice xS M cS] := hF 10 (by decide)
            have v11 : ys 11 = .slice xT N cT := hF 11 (by decide)
            simp only [List.take_succ_cons, List.take_zero, List.drop_succ_cons, List.drop_zero, Sched.fill, v0, v1, v2, v3, v4, v5, v6, v7, v8, v9, v10, v11]
            clear hF v0 v1 v2 v3 v4 v5 v6 v7 v8 v9 v10 v11
            have hB6 := hB''.out.trans (hE.mono hB''.out.size)
            have hR6 := hR''.out.keep hE hR''.out.inside
            have hr6 := hR6.inside
            have r0 := hR6.free 0
            have r1 := hR6.free 1
            have r2 := hR6.free 2
            have q0 := hR6.cell 0
            have q1 := hR6.cell 1
            have q2 := hR6.cell 2
            simp at q0 q1 q2
            go_simp
            go_wp2
            have hlo : w.heap.size ≤ n + 1 := by omega
            have hE0 : Below wc.heap.size wc w6 := hE
            have hY6 := Lib.hid (hM''.out.on hE0)
            have hX6 := Lib.hid (hW''.out.on hE0)
            have hT6 := Lib.hid (RowB.on hTr.out hE0)
            have hsz6 : (((w6.setCell ⟨n + 1, 0, none⟩ (.slice y (2 * k) cl)).setCell ⟨n + 1, 1, none⟩ (.slice x8 (2 * k) c8)).setCell ⟨n + 1, 2, none⟩ (.slice xS M cS)).heap.size = w6.heap.size := by simp
            have hbw := (((Below.refl w.heap.size w6).setCell (p := ⟨n + 1, 0, none⟩) hlo (.slice y (2 * k) cl)).setCell (p := ⟨n + 1, 1, none⟩) hlo (.slice x8 (2 * k) c8)).setCell (p := ⟨n + 1, 2, none⟩) hlo (.slice xS M cS)
            have hA7 := put3 (y0 := .slice y (2 * k) cl) (y1 := .slice x8 (2 * k) c8) (y2 := .slice xS M cS) hR6
            have hBz := hB6.trans hbw
            have hS6 := Lib.hid (((hS'.out.keep hBz (Nat.le_refl _)).cutTo hNS.out hMN).more hBz.size)
            have hn1 : ∀ q : Nat, w1.heap.size ≤ q → q ≠ n + 1 := fun q h => by omega
            have f3 : ∀ {v : Value} {m : Nat} {rows : List (List Value)}, RowB w6.heap.size w6 v m rows → (∀ q, v.ownBlock = some q → q ≠ n + 1) → RowB w6.heap.size (((w6.setCell ⟨n + 1, 0, none⟩ (.slice y (2 * k) cl)).setCell ⟨n + 1, 1, none⟩ (.slice x8 (2 * k) c8)).setCell ⟨n + 1, 2, none⟩ (.slice xS M cS)) v m rows :=
              fun h hq => RowB.far (RowB.far (RowB.far h hq _ _) hq _ _) hq _ _
            have zT := f3 hT6.out (fun q e => hn1 q (hTlo.out q e))
            have zY := f3 hY6.out (fun q e => hn1 q (Nat.le_trans hs12 (hnew'.out q e)))
            have zX := f3 hX6.out (fun q e => hn1 q (Nat.le_trans (Nat.le_trans hs12 hs23) (hXlo.out q e)))
            rw [← hsz6] at zT zY zX
            exact bodyPost_ret (v := .tuple #[.slice xT N cT, .agg #[.slice y (2 * k) cl, .slice x8 (2 * k) c8, .slice xS M cS]]) (res_parts rfl rfl rfl hA7) rfl ⟨⟨_, _, _, _, rfl, ⟨T', zT⟩, ⟨m, zY, hmn.out, by rw [hLl.out]; omega⟩, ⟨m2, zX, hm2n'.out, by rw [hm2l'.out]; omega⟩, ⟨l.take M, hS6.out, fun s hs => hnum'.out s (List.mem_of_mem_take hs), by rw [List.length_take, hNS.out]; omega⟩⟩, by have := hBz; rwa [hn'.out] at this⟩

end Go.Proofs.YtphfjaelglafnaaDoor.Load

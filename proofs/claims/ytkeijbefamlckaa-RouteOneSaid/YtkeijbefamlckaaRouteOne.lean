/-
  RouteOne returns true for all bytes: of a drawn route all routes with one request more are unlike, one a pair of places, and there are as many as pairs. Conditions: none but that the argument is such a value.
-/
import Derived.Test.YtkeijbefamlckaaRouteWorks
import Derived.Test.YtkeijbefamlckaaRouteMade
import Derived.Test.YtkeijbefamlckaaRouteOpen
namespace Go.Proofs.Ytkeijbefamlckaa.routeOne
open Go.ChangeShapes Go.WideShapes Go.ChangeAt Go.RowKit Go.Proofs.Ytkeijbefamlckaa.Mem Go.Proofs.Ytkeijbefamlckaa.Route
set_option linter.unusedVariables false

def cntT (n : Nat) : Nat → Nat
  | 0 => 0
  | i + 1 => cntT n i + (n + 1 - i)
theorem cntT_le (n : Nat) (h : n ≤ 6) : ∀ i, i ≤ n + 1 → cntT n i ≤ 7 * i
  | 0, _ => Nat.le_refl _
  | i + 1, hi => by have := cntT_le n h i (by omega); unfold cntT; omega

theorem withL_inj {l : List (Int × Int)} {i j p q : Nat} (hno : noR 9 l = true) (hl : l.length ≤ 6) (h1 : i ≤ j) (h2 : j ≤ l.length) (h3 : p ≤ q) (h4 : q ≤ l.length) (e : withL l 9 p q = withL l 9 i j) : p = i ∧ q = j := by
  have m1 : mayW l 9 i j = true := mayW_iff.2 ⟨by omega, by omega, by omega, by omega, by omega, hno⟩
  have m2 : mayW l 9 p q = true := mayW_iff.2 ⟨by omega, by omega, by omega, by omega, by omega, hno⟩
  have a1 := ix_with m1
  have a2 := ix_with m2
  simp only [Int.toNat_natCast] at a1 a2
  rw [e] at a2
  omega

/-- All that has been gathered: M rows, of unlike pairs of places that come ahead of (i, j). -/
def AllAt (B : Nat) (W : World) (u : Value) (l : List (Int × Int)) (i j M : Nat) : Prop :=
  ∃ (vs : List Value) (PS : List (Nat × Nat)), vs.length = M ∧ PS.length = M ∧ W.ownsRow B 22 1 u M vs ∧
    ∀ (q : Nat) (v : Value) (p : Nat × Nat), vs[q]? = some v → PS[q]? = some p → p.1 ≤ p.2 ∧ p.2 ≤ l.length ∧ (p.1 < i ∨ p.1 = i ∧ p.2 < j) ∧ Row W.heap.size W v (withL l 9 p.1 p.2) ∧ ∀ r, v.ownBlock = some r → u.ownBlock ≠ some r
theorem AllAt.nil (B : Nat) (W : World) (l : List (Int × Int)) (i j : Nat) : AllAt B W (.slice none 0 0) l i j 0 :=
  ⟨[], [], rfl, rfl, World.ownsRow_nil _ _ _ _, fun q v p h => by simp at h⟩
theorem AllAt.slice {B : Nat} {W : World} {u : Value} {l : List (Int × Int)} {i j M : Nat} (h : AllAt B W u l i j M) : ∃ x cap, u = .slice x M cap ∧ M ≤ cap ∧ cap ≤ maxLen := by
  obtain ⟨vs, PS, _, _, ⟨hl, ⟨rfl, h0⟩ | ⟨g, cap, cur, rfl, hb, hg, hc1, hc2, hs, ht⟩⟩, _⟩ := h
  · subst h0
    exact ⟨none, 0, rfl, Nat.le_refl _, Nat.zero_le _⟩
  · exact ⟨_, cap, rfl, hc1, hc2⟩
theorem AllAt.on {B : Nat} {W W' : World} {u : Value} {l : List (Int × Int)} {i j M : Nat} (h : AllAt B W u l i j M) (hb : Below W.heap.size W W') : AllAt B W' u l i j M := by
  obtain ⟨vs, PS, h1, h2, h3, h4⟩ := h
  refine ⟨vs, PS, h1, h2, owns_below h3 hb, fun q v p hv hp => ?_⟩
  obtain ⟨a, b, c, d, e⟩ := h4 q v p hv hp
  exact ⟨a, b, c, d.on hb, e⟩
theorem AllAt.wider {B : Nat} {W : World} {u : Value} {l : List (Int × Int)} {i j i' j' M : Nat} (h : AllAt B W u l i j M) (hw : ∀ a b : Nat, a ≤ b → b ≤ l.length → (a < i ∨ a = i ∧ b < j) → (a < i' ∨ a = i' ∧ b < j')) : AllAt B W u l i' j' M := by
  obtain ⟨vs, PS, h1, h2, h3, h4⟩ := h
  refine ⟨vs, PS, h1, h2, h3, fun q v p hv hp => ?_⟩
  obtain ⟨a, b, c, d, e⟩ := h4 q v p hv hp
  exact ⟨a, b, hw _ _ a b c, d, e⟩
/-- One of them: another row. -/
theorem AllAt.get {B : Nat} {W : World} {x : Option Addr} {n cap : Nat} {l : List (Int × Int)} {i j M q : Nat} (h : AllAt B W (.slice x n cap) l i j M) (hq : q < M) :
    ∃ (g : Nat) (v : Value) (p : Nat × Nat), x = some ⟨g, 0, none⟩ ∧ W.cell? ⟨g, q, none⟩ = some v ∧ g < W.heap.size ∧ Row W.heap.size W v (withL l 9 p.1 p.2) ∧ p.1 ≤ p.2 ∧ p.2 ≤ l.length ∧ (p.1 < i ∨ p.1 = i ∧ p.2 < j) := by
  obtain ⟨vs, PS, h1, h2, h3, h4⟩ := h
  have hv : vs[q]? = some (vs[q]'(by omega)) := List.getElem?_eq_getElem _
  have hp : PS[q]? = some (PS[q]'(by omega)) := List.getElem?_eq_getElem _
  obtain ⟨a, b, c, d, e⟩ := h4 q _ _ hv hp
  have h3' := h3
  obtain ⟨hl, ⟨e1, h0⟩ | ⟨g, cap', cur, e1, hb, hg, hc1, hc2, hs, ht⟩⟩ := h3
  · omega
  · simp only [Value.slice.injEq] at e1
    obtain ⟨rfl, _, _⟩ := e1
    refine ⟨g, _, _, rfl, ?_, (Array.getElem?_eq_some_iff.1 hg).1, d, a, b, c⟩
    have := h3'.cells (g := g) rfl q _ hv
    rw [add_at, Nat.zero_add] at this
    exact this
theorem Row.grown {B : Nat} {W W' : World} {row : Option Nat} {v : Value} {l : List (Int × Int)} (h : Row B W v l) (hg : W.grownBy W' row) (hB : B ≤ W.heap.size) (hr : ∀ r, v.ownBlock = some r → row ≠ some r) : Row B W' v l := by
  obtain ⟨x, cap, rfl, h1, h2, h0, h3⟩ := h
  refine ⟨x, cap, rfl, h1, h2, h0, fun j r hj => ?_⟩
  obtain ⟨g, o, rfl, hgB, hc⟩ := h3 j r hj
  refine ⟨g, o, rfl, hgB, fun k u hk => ?_⟩
  have hb := hg.block g (by omega) (fun e => hr g rfl e.symm)
  have := hc k u hk
  unfold World.cell? at this ⊢
  simp only at this ⊢
  rw [hb]
  exact this
theorem Row.block {B : Nat} {W : World} {v : Value} {l : List (Int × Int)} (h : Row B W v l) (hl : 0 < l.length) : ∀ r, v.ownBlock = some r → r < B := by
  obtain ⟨x, cap, rfl, h1, h2, h0, h3⟩ := h
  obtain ⟨g, o, rfl, hg, _⟩ := h3 0 (stV l[0]) (by rw [List.getElem?_map, List.getElem?_eq_getElem hl]; rfl)
  intro r e
  simp only [Value.ownBlock, Option.some.injEq] at e
  omega
/-- One more. -/
theorem AllAt.snoc {B N : Nat} {W W1 W' : World} {u u' v : Value} {l : List (Int × Int)} {i j M : Nat} {vs : List Value} {PS : List (Nat × Nat)} (h1 : vs.length = M) (h2 : PS.length = M)
    (h4 : ∀ (q : Nat) (v : Value) (p : Nat × Nat), vs[q]? = some v → PS[q]? = some p → p.1 ≤ p.2 ∧ p.2 ≤ l.length ∧ (p.1 < i ∨ p.1 = i ∧ p.2 < j) ∧ Row W.heap.size W v (withL l 9 p.1 p.2) ∧ ∀ r, v.ownBlock = some r → u.ownBlock ≠ some r)
    (hij : i ≤ j) (hj : j ≤ l.length) (hv : Row W.heap.size W v (withL l 9 i j)) (hn : New N v) (hu : ∀ r, u.ownBlock = some r → r < N)
    (hb : Below W.heap.size W W1) (hown : W'.ownsRow B 22 1 u' (M + 1) (vs ++ [v])) (hg : W1.grownBy W' u.ownBlock) (hat : u'.ownBlock = u.ownBlock ∨ u'.ownBlock = some W1.heap.size) : AllAt B W' u' l i (j + 1) (M + 1) := by
  have hlen : ∀ a b : Nat, a ≤ b → b ≤ l.length → 0 < (withL l 9 a b).length := fun a b h5 h6 => by rw [withL_length h5 h6]; omega
  have hrow : ∀ v a b, a ≤ b → b ≤ l.length → Row W.heap.size W v (withL l 9 a b) → (∀ r, v.ownBlock = some r → u.ownBlock ≠ some r) → Row W'.heap.size W' v (withL l 9 a b) ∧ ∀ r, v.ownBlock = some r → u'.ownBlock ≠ some r := by
    intro v a b hab hbl hR hne
    have hR1 := hR.keep hb (Nat.le_refl _)
    refine ⟨(Row.grown hR1 hg hb.size hne).more (Nat.le_trans hb.size hg.size), fun r e => ?_⟩
    have hlt := Row.block hR (hlen a b hab hbl) r e
    rcases hat with h5 | h5
    · rw [h5]; exact hne r e
    · rw [h5]
      have := hb.size
      intro e2
      cases e2
      omega
  refine ⟨vs ++ [v], PS ++ [(i, j)], by simp [h1], by simp [h2], hown, fun q v' p hv' hp => ?_⟩
  rcases Nat.lt_or_ge q M with hq | hq
  · rw [List.getElem?_append_left (by omega)] at hv' hp
    obtain ⟨a, b, c, d, e⟩ := h4 q v' p hv' hp
    obtain ⟨f1, f2⟩ := hrow v' _ _ a b d e
    exact ⟨a, b, by omega, f1, f2⟩
  · rw [List.getElem?_append_right (by omega)] at hv' hp
    have hq0 : q - vs.length = 0 := by have := (List.getElem?_eq_some_iff.1 hv').1; simp at this; omega
    have hq1 : q - PS.length = 0 := by omega
    rw [hq0] at hv'
    rw [hq1] at hp
    simp at hv' hp
    subst hv'
    subst hp
    obtain ⟨f1, f2⟩ := hrow v _ _ hij hj hv (fun r e e2 => by have := hn r e; have := hu r e2; omega)
    exact ⟨hij, hj, by simp, f1, f2⟩

theorem info_stops : (Try.prog.info? 22).map (fun i => (i.zero, i.size, i.bytes)) = some (some (.slice none 0 0), 1, 24) := by kernel_rfl

/-- The first six bytes at most. -/
theorem RowB.cutTo {B : Nat} {W : World} {x : Option Addr} {N cap k m : Nat} {l : List (List Value)} (h : RowB B W (.slice x N cap) m l) (hl : l.length = N) (hk : k ≤ N) : RowB B W (.slice x k cap) m (l.take k) := by
  obtain ⟨x', cap', e, h1, h2, h0, h3⟩ := h
  simp only [Value.slice.injEq] at e
  obtain ⟨rfl, rfl, rfl⟩ := e
  refine ⟨x, cap, by simp; omega, by simp; omega, h2, fun hx => ?_, fun j r hj => ?_⟩
  · have := h0 hx
    simp [this]
  · have hjk : j < k := by
      rcases Nat.lt_or_ge j k with h | h
      · exact h
      · rw [List.getElem?_eq_none (by simp; omega)] at hj; cases hj
    rw [List.getElem?_take_of_lt hjk] at hj
    exact h3 j r hj

set_option maxRecDepth 100000 in
set_option maxHeartbeats 8000000 in
theorem walk (v : Value) (bs : List Int) (hb : ∀ x ∈ bs, 0 ≤ x ∧ x < 256) (w : World) (h : RowB w.heap.size w v 1 (bs.map byV)) :
    Calls Try.prog 6 #[v] w fun e w' => e = .returned (.bool true) ∧ Below w.heap.size w w' := by
  obtain ⟨i0, hi, hz0, hz1, hz2⟩ := info_parts info_stops
  obtain ⟨x, N, cap, rfl, hN', hc1, hc2⟩ := bytes_open h
  have hb' := Lib.hid hb
  obtain ⟨M, hM1, hM2, hM3⟩ : ∃ M : Nat, min (N : Int) 6 = (M : Int) ∧ M ≤ N ∧ M ≤ 6 := ⟨min N 6, by omega, by omega, by omega⟩
  have hcut := Lib.hid (show RowB w.heap.size w (.slice x M cap) 1 ((bs.take M).map byV) by
    rw [List.map_take]
    exact RowB.cutTo h (by rw [List.length_map]; exact hN'.out) hM2)
  have hbt := Lib.hid (show ∀ x ∈ bs.take M, 0 ≤ x ∧ x < 256 from fun y hy => hb'.out y (List.mem_of_mem_take hy))
  have hMt := Lib.hid (show (bs.take M).length = M by rw [List.length_take, hN'.out]; omega)
  have hMc : M ≤ cap := by omega
  clear h hb hb'
  go_enter Try.func6, Try.ntmps6
  go_wp2_with fail
  refine Calls.mono (works_any _) ?_
  rintro e w2 ⟨rfl, hB2⟩
  go_wp2_with fail
  refine Calls.mono (Made_any _ (bs.take M) hbt.out _ ((hcut.out.keep hB2 (Nat.le_refl _)).more hB2.size)) ?_
  rintro e w3 ⟨⟨v3, rfl, l, k, hR, hD, hk6, hkM⟩, hb3⟩
  rw [hMt.out] at hkM
  have hk3 : k ≤ 3 := by omega
  have hB3 := bStep hB2 hb3
  obtain ⟨y, L, cl, rfl, hL, hy0, hc3, hc4⟩ := hR.opened
  obtain rfl : L = 2 * k := by rw [← hL.out, hD.2.1]
  have hR' := Lib.hid hR
  have hno := Lib.hid (hD.no (r := 9) (by omega))
  have hl6 : l.length ≤ 6 := by rw [hL.out]; omega
  have hl6' := Lib.hid hl6
  clear hb3 hB2 hR hD hbt hcut hMt hN' hM1 hl6
  have hs3 := hB3.size
  obtain ⟨n, hn⟩ : ∃ n, n = 2 * k := ⟨_, rfl⟩
  have hn' := Lib.hid hn
  have hn6 : n ≤ 6 := by omega
  have hLn := Lib.hid (show l.length = n by rw [hL.out, hn])
  rw [← hn] at hR' ⊢
  clear hn
  go_wp2
  go_loopw [4, 5] (fun u i wr => ∃ I M : Nat, I ≤ n + 1 ∧ i = .int .i64 I ∧ M = cntT n I ∧ Hid (AllAt w3.heap.size wr u l I I M) ∧ Below w3.heap.size w3 wr)
    (fun _ i _ => n + 1 - (intOf i).toNat)
  case atStart => exact ⟨0, 0, by omega, rfl, rfl, Lib.hid (AllAt.nil _ _ _ _ _), Below.refl _ _⟩
  case round =>
    obtain ⟨I, M, hI, rfl, hM, hall, hbw⟩ := hrel
    have hM' := Lib.hid hM
    clear hM
    by_cases hlt : I < n + 1
    · have hIn : I ≤ n := by omega
      have hIn' : (I : Int) ≤ n := by omega
      go_wp2_with fail
      generalize hwr : wr = wI at *
      clear hwr wr
      go_loopw [4, 6] (fun u j wr => ∃ J M : Nat, I ≤ J ∧ J ≤ n + 1 ∧ j = .int .i64 J ∧ Hid (M = cntT n I + (J - I)) ∧ Hid (AllAt w3.heap.size wr u l I J M) ∧ Below w3.heap.size w3 wr)
        (fun _ j _ => n + 1 - (intOf j).toNat)
      case atStart => exact ⟨I, M, Nat.le_refl _, hI, rfl, Lib.hid (by rw [hM'.out]; omega), hall, hbw⟩
      case round =>
        clear hall hbw hM'
        obtain ⟨J, M, hIJ, hJ, rfl, hM', hall, hbw⟩ := hrel
        have hrow := Lib.hid ((hR'.out.keep hbw (Nat.le_refl _)).more hbw.size)
        obtain ⟨x4, c4, rfl, h41, h42⟩ := hall.out.slice
        by_cases hltJ : J < n + 1
        · have hJn : J ≤ n := by omega
          have hJn' : (J : Int) ≤ n := by omega
          have hM50 : M ≤ 50 := by
            have := cntT_le n hn6 I (by omega)
            have := hM'.out
            have h7 : cntT n I ≤ 42 := by
              have : I ≤ 6 := by omega
              omega
            omega
          have hm := Lib.hid (mayW_iff (l := l) (r := 9) (i := I) (j := J) |>.2 ⟨by omega, by omega, by rw [hLn.out]; omega, by omega, by rw [hLn.out]; omega, hno.out⟩)
          have hwv := Lib.hid (with_yes hm.out)
          go_wp2_with fail
          refine Calls.mono (With_any _ l 9 I J (by rw [hLn.out]; omega) _ hrow.out) ?_
          rintro e w7 ⟨⟨v7, rfl, hv7, hnw7⟩, hb7⟩
          rw [hm.out]
          rw [hwv.out] at hv7
          simp only [Int.toNat_natCast] at hv7
          have hB7 := bStep hbw hb7
          have hrow7 := Lib.hid (hrow.out.on hb7)
          have hall7 := Lib.hid (hall.out.on hb7)
          have hu7 : ∀ r, (Value.slice x4 M c4).ownBlock = some r → r < wr.heap.size := by
            obtain ⟨vs, PS, _, _, h3, _⟩ := hall.out
            exact fun r e => (h3.lt r e).2
          have hu7' := Lib.hid hu7
          have hnw7' := Lib.hid hnw7
          have hv7' := Lib.hid hv7
          obtain ⟨x7, n7, c7, rfl, hN7, _, h71, h72⟩ := hv7.opened
          clear hv7 hnw7 hu7 hb7 hall hrow hbw hwv hm
          go_wp2_with fail
          have hs7 := hB7.size
          go_loopw [9] (fun q wr => ∃ Q : Nat, Q ≤ M ∧ q = .int .i64 Q ∧ Below w7.heap.size w7 wr) (fun q _ => M - (intOf q).toNat)
          case atStart => exact ⟨0, by omega, rfl, Below.refl _ _⟩
          case round =>
            obtain ⟨Q, hQ, rfl, hbq⟩ := hrel
            by_cases hltQ : Q < M
            · obtain ⟨g, vq, p, rfl, hcell, hg, hRq, hp1, hp2, hp3⟩ := hall7.out.get hltQ
              have hcell := (hbq.cell (p := ⟨g, Q, none⟩) hg).trans hcell
              have hne := Lib.hid (show decide (withL l 9 p.1 p.2 = withL l 9 I J) = false by
                simp only [decide_eq_false_iff_not]
                intro e
                have := withL_inj hno.out hl6'.out hIJ (by rw [hLn.out]; exact hJn) hp1 hp2 e
                omega)
              have hRq' := Lib.hid hRq
              have hlq := Lib.hid (show (withL l 9 p.1 p.2).length ≤ 140737488351232 by rw [withL_length hp1 hp2, hLn.out]; omega)
              obtain ⟨xq, nq, cq, rfl, hNq, _, hq1, hq2⟩ := hRq.opened
              clear hRq hp1 hp2 hp3
              go_wp2_with fail
              refine Calls.mono (Same_any _ _ (withL l 9 p.1 p.2) (withL l 9 I J) hlq.out _ (hRq'.out.on hbq) (hv7'.out.on hbq)) ?_
              rintro e w8 ⟨rfl, hb8⟩
              rw [hne.out]
              have hB8 := bStep hbq hb8
              clear hb8 hbq hcell
              go_wp2
              go_roundw
              case rel => exact ⟨Q + 1, by omega, by go_num, hB8⟩
              case measure => simp [intOf]; omega
            · obtain rfl : Q = M := by omega
              have hown := hall7.out
              obtain ⟨vs, PS, hvl, hPl, ho, hx⟩ := hown
              have ho' := owns_below ho hbq
              have hsq := hbq.size
              have hx' := Lib.hid hx
              have hvl' := Lib.hid hvl
              have hPl' := Lib.hid hPl
              clear hx hvl hPl ho
              go_wp2_with (at_builtin; refine wpList_append_own_at _ rfl _ _ 50 rfl w3.heap.size 22 i0 (.slice none 0 0) 1 24 Try.underlying50 hi hz0 hz1 hz2 rfl (by decide) _ _ _ rfl (ho'.alloc _) ⟨wr.heap.size, 0, none⟩ 1 1 [.slice x7 n7 c7] rfl rfl (cell_one_new _ _ _) (by simp [Value.oneCell']) (by unfold maxLen; omega) (by omega) (by simp; omega) ?_; intro v9 w9 hown9 hgrow9 hnil9 hat9)
              have hall9 := Lib.hid (AllAt.snoc hvl'.out hPl'.out hx'.out hIJ (by rw [hLn.out]; exact hJn) hv7'.out hnw7'.out hu7'.out (bAlloc hbq _) hown9 hgrow9 hat9)
              have h8 := bStep hB7 hbq
              have hB9 : Below w3.heap.size w3 w9 := (bAlloc h8 _).grown hgrow9 (by have := h8.size; simp; omega) (owns_row ho')
              clear hown9 hgrow9 hnil9 hat9 h8 ho' hbq hB7
              go_roundw
              case rel => exact ⟨J + 1, Q + 1, by omega, by omega, by go_num, Lib.hid (by rw [hM'.out]; omega), hall9, hB9⟩
              case measure => simp [intOf]; omega
        · obtain rfl : J = n + 1 := by omega
          have hall2 := Lib.hid (hall.out.wider (i' := I + 1) (j' := I + 1) (fun a b h1 h2 h3 => by omega))
          have hM2 := Lib.hid (show M = cntT n (I + 1) from hM'.out)
          clear hall hM'
          go_wp2
          go_roundw
          case rel => exact ⟨I + 1, M, by omega, by go_num, hM2.out, hall2, hbw⟩
          case measure => simp [intOf]; omega
    · obtain rfl : I = n + 1 := by omega
      obtain ⟨x4, c4, rfl, h41, h42⟩ := hall.out.slice
      clear hall
      have hk4 : k = 0 ∨ k = 1 ∨ k = 2 ∨ k = 3 := by omega
      rcases hk4 with e | e | e | e
      · obtain rfl : n = 0 := by rw [hn'.out, e]
        obtain rfl : M = 1 := by rw [hM'.out]; rfl
        go_wp2
        go_ret
        exact ⟨rfl, bStep hB3 hbw⟩
      · obtain rfl : n = 2 := by rw [hn'.out, e]
        obtain rfl : M = 6 := by rw [hM'.out]; rfl
        go_wp2
        go_ret
        exact ⟨rfl, bStep hB3 hbw⟩
      · obtain rfl : n = 4 := by rw [hn'.out, e]
        obtain rfl : M = 15 := by rw [hM'.out]; rfl
        go_wp2
        go_ret
        exact ⟨rfl, bStep hB3 hbw⟩
      · obtain rfl : n = 6 := by rw [hn'.out, e]
        obtain rfl : M = 28 := by rw [hM'.out]; rfl
        go_wp2
        go_ret
        exact ⟨rfl, bStep hB3 hbw⟩

set_option maxRecDepth 100000 in
theorem lifted (os : Os) (started : os.Started) (H : Type) (enc : TypeId × Value → H) :
    ReturnsInHanded {} Try.checked os 6 .any (Rows.routeOneSpec.pre6 enc Try.prog Try.f6 Rows.routeOneRow.domain false) (Rows.routeOneSpec.post enc Try.prog Try.f6 false true false false) := by
  refine returnsInHanded_of_change (C := Try.checked) own started (by kernel_rfl) Try.func6
    (ChangeSpec.witness6 (enc := enc) (C := Try.checked) false ⟨#[], #[.slice none 0 0], []⟩ 8 (by kernel_rfl) (by kernel_rfl) (by kernel_rfl) (by kernel_rfl)) ?_
  intro W base args ds gs before hval0 hW hcnd _
  have hval : ∀ (j : Nat) t v, Try.f6.params[j]? = some t → args[j]? = some v → Value.okWide Try.prog W .any base t v := hval0
  have hW' := hW
  obtain ⟨p, q, hA0, hV, rfl, hfz, hnd⟩ := hW
  have hA : DataW.TrodAll enc Try.prog W 0 (fun _ => true) true Try.f6.params.toList args.toList ds p := hA0
  rw [Try.params6] at hA hval
  obtain ⟨v0, vs0, d0, ds0, p0, q0, hargs, rfl, rfl, h0, r0⟩ := trodAll_cons hA
  obtain ⟨rfl, rfl, rfl⟩ := trodAll_nil r0
  obtain rfl : args = #[v0] := by cases args; simp_all
  obtain ⟨rfl, rfl⟩ := trodVars_none hV
  obtain ⟨bs, hrow, hbs⟩ := openBytes (hval 0 23 v0 rfl rfl) h0
  exact (walk v0 bs hbs W hrow).mono fun e W' ⟨he, hb⟩ => ⟨_, he, Close.law_post laidOut (by kernel_rfl) rfl (by kernel_rfl) Try.underlying4 hW' rfl hb⟩

theorem over : Rows.routeOneRow.holds Try.pinned (OpenSpec.ofChange Rows.routeOneSpec) :=
  OpenClaim.holds_of_wide 6 Try.f6 rfl rfl rfl rfl rfl rfl rfl ⟨rfl, rfl, rfl, rfl, rfl⟩ rfl rfl rfl rfl rfl (by kernel_rfl) Try.func6 (by kernel_rfl)
    (of_decide_eq_true (by kernel_rfl)) (by unfold Func.isWrapper; first | (rw [if_pos (by decide +kernel)]; kernel_rfl) | (rw [if_neg (by decide +kernel)]; exact ⟨rfl, rfl⟩))
    (fun os started H enc _ => lifted os started H enc)

theorem proved : Rows.RouteOneSaid := over
#print axioms proved

end Go.Proofs.Ytkeijbefamlckaa.routeOne

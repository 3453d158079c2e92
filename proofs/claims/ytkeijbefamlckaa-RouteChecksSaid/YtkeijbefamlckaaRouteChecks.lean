/-
  RouteChecks returns true for all stops, bytes and numbers: which rows are routes, and why not, and their requests, is as the document says: of any rows, of routes that are drawn, and of these with two stops changed. Conditions: none but that the arguments are such values.
-/
import Derived.Test.YtkeijbefamlckaaRouteWorks
import Derived.Test.YtkeijbefamlckaaRouteNear
import Derived.Test.YtkeijbefamlckaaRouteOpen
import Derived.Test.YtkeijbefamlckaaSchedAll
namespace Go.Proofs.Ytkeijbefamlckaa.routeChecks
open Go.ChangeShapes Go.WideShapes Go.ChangeAt Go.RowKit Go.Sort Go.Proofs.Ytkeijbefamlckaa.Mem Go.Proofs.Ytkeijbefamlckaa.Route
set_option linter.unusedVariables false

/-- Block g is the call's own, and holds these stops, in its first cells. -/
def OwnS (W : World) (g n cap : Nat) (l : List (Int × Int)) : Prop :=
  l.length = n ∧ n ≤ cap ∧ cap ≤ maxLen ∧ ∃ cs : Array Value, At W g 27 cs ∧ cs.size = cap * 2 ∧ ∀ j s, l[j]? = some s → cs[j * 2]? = some (.int .i64 s.1) ∧ cs[j * 2 + 1]? = some (.int .i64 s.2)
section
variable {W V : World} {g n cap j : Nat} {l : List (Int × Int)} {s : Int × Int}
theorem OwnS.inside (h : OwnS W g n cap l) : g < W.heap.size := by
  obtain ⟨_, _, _, cs, h1, _⟩ := h
  exact h1.inside
theorem OwnS.cells (h : OwnS W g n cap l) (hj : l[j]? = some s) : W.cell? ⟨g, j * 2, none⟩ = some (.int .i64 s.1) ∧ W.cell? ⟨g, j * 2 + 1, none⟩ = some (.int .i64 s.2) := by
  obtain ⟨_, _, _, cs, h1, h2, h3⟩ := h
  exact ⟨(h1.cell _).trans (h3 j s hj).1, (h1.cell _).trans (h3 j s hj).2⟩
theorem OwnS.free (h : OwnS W g n cap l) (i : Nat) : W.frozen? ⟨g, i, none⟩ = false := by
  obtain ⟨_, _, _, cs, h1, _⟩ := h
  exact h1.free i
theorem OwnS.keep (h : OwnS W g n cap l) (e : V.heap[g]? = W.heap[g]?) : OwnS V g n cap l := by
  obtain ⟨a, b, c, cs, h1, h2⟩ := h
  exact ⟨a, b, c, cs, e.trans h1, h2⟩
theorem OwnS.put0 (h : OwnS W g n cap l) (hj : l[j]? = some s) (x : Int) : OwnS (W.setCell ⟨g, j * 2, none⟩ (.int .i64 x)) g n cap (l.set j (x, s.2)) := by
  obtain ⟨a, b, c, cs, h1, h2, h3⟩ := h
  refine ⟨by rw [List.length_set]; exact a, b, c, _, h1.put (j * 2) (.int .i64 x), by simpa using h2, fun k t hk => ?_⟩
  have hjl := (List.getElem?_eq_some_iff.1 hj).1
  rw [List.getElem?_set] at hk
  rw [Array.getElem?_setIfInBounds, Array.getElem?_setIfInBounds]
  by_cases hjk : j = k
  · subst hjk
    rw [if_pos rfl, if_pos hjl] at hk
    cases hk
    rw [if_pos rfl, if_pos (by omega), if_neg (by omega)]
    exact ⟨rfl, (h3 j s hj).2⟩
  · rw [if_neg hjk] at hk
    rw [if_neg (by omega), if_neg (by omega)]
    exact h3 k t hk
theorem OwnS.put1 (h : OwnS W g n cap l) (hj : l[j]? = some s) (x : Int) : OwnS (W.setCell ⟨g, j * 2 + 1, none⟩ (.int .i64 x)) g n cap (l.set j (s.1, x)) := by
  obtain ⟨a, b, c, cs, h1, h2, h3⟩ := h
  refine ⟨by rw [List.length_set]; exact a, b, c, _, h1.put (j * 2 + 1) (.int .i64 x), by simpa using h2, fun k t hk => ?_⟩
  have hjl := (List.getElem?_eq_some_iff.1 hj).1
  rw [List.getElem?_set] at hk
  rw [Array.getElem?_setIfInBounds, Array.getElem?_setIfInBounds]
  by_cases hjk : j = k
  · subst hjk
    rw [if_pos rfl, if_pos hjl] at hk
    cases hk
    rw [if_neg (by omega), if_pos rfl, if_pos (by omega)]
    exact ⟨(h3 j s hj).1, rfl⟩
  · rw [if_neg hjk] at hk
    rw [if_neg (by omega), if_neg (by omega)]
    exact h3 k t hk
/-- A whole stop is stored. -/
theorem OwnS.put (h : OwnS W g n cap l) (hj : j < n) (a b : Int) : OwnS ((W.setCell ⟨g, j * 2, none⟩ (.int .i64 a)).setCell ⟨g, j * 2 + 1, none⟩ (.int .i64 b)) g n cap (l.set j (a, b)) := by
  have hjl : j < l.length := by rw [h.1]; exact hj
  have h1 := h.put0 (j := j) (List.getElem?_eq_getElem hjl) a
  have h2 := h1.put1 (j := j) (s := (a, (l[j]).2)) (by rw [List.getElem?_set, if_pos rfl, if_pos hjl]) b
  rw [List.set_set] at h2
  exact h2
theorem OwnS.row (h : OwnS W g n cap l) : Row W.heap.size W (.slice (some ⟨g, 0, none⟩) n cap) l := by
  have hin := h.inside
  obtain ⟨a, b, c, cs, h1, h2, h3⟩ := h
  have := RowB.of_at (B := W.heap.size) (m := 2) (cap := cap) (rows := l.map stV) h1 hin (fun r hr => by obtain ⟨s, _, rfl⟩ := List.mem_map.1 hr; rfl) (fun i u hu => by
    obtain ⟨j, k, r, e, hr, hu2⟩ := flat_of (m := 2) (by decide) (fun r hr => by obtain ⟨s, _, rfl⟩ := List.mem_map.1 hr; rfl) i u hu
    clear hu
    obtain ⟨s, hs, rfl⟩ := map_get hr
    have h4 := h3 j s hs
    subst e
    match k, hu2 with
    | 0, hu => cases hu; exact h4.1
    | 1, hu => cases hu; exact h4.2
    | k + 2, hu => simp [stV] at hu) (by simp; omega) c
  rw [List.length_map, a] at this
  exact this
theorem OwnS.of_owns {B : Nat} {xs : List Value} (h : W.ownsRow B 27 2 (.slice (some ⟨g, 0, none⟩) n cap) n xs) (hx : xs = flatS l) (hl : l.length = n) : OwnS W g n cap l := by
  obtain ⟨hlen, ⟨e, h0⟩ | ⟨g', cap', cur, e, hb, hg, hc1, hc2, hs, ht⟩⟩ := h
  · cases e
  · simp only [Value.slice.injEq, Option.some.injEq, Addr.mk.injEq, and_true, true_and] at e
    obtain ⟨rfl, rfl⟩ := e
    refine ⟨hl, hc1, hc2, cur, hg, hs, fun j s hj => ?_⟩
    have hjl := (List.getElem?_eq_some_iff.1 hj).1
    have hr : ∀ r ∈ l.map stV, r.length = 2 := fun r hr => by obtain ⟨s, _, rfl⟩ := List.mem_map.1 hr; rfl
    have f0 := flat_get hr j (stV s) (by rw [List.getElem?_map, hj]; rfl) 0 _ rfl
    have f1 := flat_get hr j (stV s) (by rw [List.getElem?_map, hj]; rfl) 1 _ rfl
    have ht' : cur.toList.take (n * 2) = flatS l := ht.trans hx
    have g0 : (cur.toList.take (n * 2))[j * 2 + 0]? = some (.int .i64 s.1) := by rw [ht']; exact f0
    have g1 : (cur.toList.take (n * 2))[j * 2 + 1]? = some (.int .i64 s.2) := by rw [ht']; exact f1
    rw [List.getElem?_take_of_lt (by omega)] at g0 g1
    exact ⟨by simpa using g0, by simpa using g1⟩
end
theorem Nums.set {l : List (Int × Int)} (h : Nums l) (j : Nat) {s : Int × Int} (hs : I64 s.1 ∧ I64 s.2) : Nums (l.set j s) := by
  intro t ht
  rcases List.mem_or_eq_of_mem_set ht with h1 | rfl
  · exact h t h1
  · exact hs
theorem owns_empty {W : World} {base n : Nat} {e : TypeId} (hn : n = W.heap.size) (hb : base ≤ n) : (W.alloc (.cells #[] e)).ownsRow base e 2 (.slice (some ⟨n, 0, none⟩) 0 0) 0 [] := by
  subst hn
  exact ⟨rfl, .inr ⟨W.heap.size, 0, #[], rfl, hb, heap_alloc_new W _, Nat.le_refl _, Nat.zero_le _, rfl, rfl⟩⟩

theorem rowSlice {W : World} {base : Nat} {e : TypeId} {size : Nat} {v : Value} {n : Nat} {xs : List Value} (h : W.ownsRow base e size v n xs) : ∃ x cap, v = .slice x n cap := by
  obtain ⟨hl, ⟨rfl, rfl⟩ | ⟨g, cap, cur, rfl, _⟩⟩ := h
  · exact ⟨none, 0, rfl⟩
  · exact ⟨_, cap, rfl⟩
theorem ownOpen {W : World} {base n cap : Nat} {e : TypeId} {size : Nat} {x : Option Addr} {xs : List Value} (h : W.ownsRow base e size (.slice x n cap) n xs) (hn : 0 < n) : ∃ g : Nat, x = some ⟨g, 0, none⟩ ∧ base ≤ g := by
  obtain ⟨hl, ⟨e, h0⟩ | ⟨g, cap', cur, e, hb, _⟩⟩ := h
  · omega
  · simp only [Value.slice.injEq] at e
    exact ⟨g, e.1, hb⟩
theorem gRefl' (W : World) (row : Option Nat) : W.grownBy W row := ⟨rfl, rfl, rfl, Nat.le_refl _, fun _ _ _ => rfl⟩

/-- What the operations leave that exchange two stops. -/
def VS (L : Value) (g i j : Nat) (a b : Int × Int) : Nat → Value → World → Prop
  | 0, y, _ => y = L
  | 1, y, _ => y = .int .i64 i
  | 2, y, _ => y = L
  | 3, y, _ => y = .int .i64 j
  | 4, y, _ => y = L
  | 5, y, _ => y = .int .i64 j
  | 6, y, _ => y = .pointer (some ⟨g, j * 2, none⟩)
  | 7, y, _ => y = .agg #[.int .i64 b.1, .int .i64 b.2]
  | 8, y, _ => y = L
  | 9, y, _ => y = .int .i64 i
  | 10, y, _ => y = .pointer (some ⟨g, i * 2, none⟩)
  | 11, y, _ => y = .agg #[.int .i64 a.1, .int .i64 a.2]
  | 12, y, _ => y = .pointer (some ⟨g, i * 2, none⟩)
  | _, _, _ => True
theorem VS.keep {L : Value} {g i j k : Nat} {a b : Int × Int} {v : Value} {W V : World} (h : VS L g i j a b k v W) : VS L g i j a b k v V := by
  match k with
  | 0 | 1 | 2 | 3 | 4 | 5 | 6 | 7 | 8 | 9 | 10 | 11 | 12 => exact h
  | k + 13 => trivial
structure ZS (g n cap i : Nat) (l : List (Int × Int)) (b : Int × Int) (done : Nat → Bool) (W : World) : Prop where
  ord : done 13 = true → done 7 = true ∧ done 11 = true
  no : done 13 = false → OwnS W g n cap l
  yes : done 13 = true → OwnS W g n cap (l.set i b)
theorem ZS.light {g n cap i k : Nat} {l : List (Int × Int)} {b : Int × Int} {done : Nat → Bool} {W : World} (h : ZS g n cap i l b done W) (hk : k < 13) : ZS g n cap i l b (Sched.mark done k) W := by
  refine ⟨fun h1 => ?_, fun h1 => ?_, fun h1 => ?_⟩
  · rw [mark_ne (by omega)] at h1
    exact ⟨mark_of (h.ord h1).1, mark_of (h.ord h1).2⟩
  · rw [mark_ne (by omega)] at h1; exact h.no h1
  · rw [mark_ne (by omega)] at h1; exact h.yes h1
def IsSome' (y : Value) (W : World) : Prop := ∃ x n c, y = .slice x n c ∧ SomeOk 30 W y
theorem IsSome'.on {y : Value} {W V : World} (h : IsSome' y W) (hb : Below W.heap.size W V) : IsSome' y V := by
  obtain ⟨x, n, c, e, l, h1, h2⟩ := h
  exact ⟨x, n, c, e, l, h1.on hb, h2⟩
/-- What the operations leave that lay the four rows. -/
def VC (L S7 S8 : Value) (x : Option Addr) (N M cap : Nat) : Nat → Value → World → Prop
  | 0, y, _ => y = L
  | 1, y, _ => y = L
  | 2, y, _ => y = .int .i64 N
  | 3, y, _ => y = .int .i64 M
  | 4, y, _ => y = .slice x M cap
  | 5, y, _ => y = L
  | 6, y, W => IsSome' y W
  | 7, y, _ => y = S7
  | 8, y, _ => y = S8
  | 9, y, W => ∃ a, y = .agg #[.slice x M cap, a, S7, S8] ∧ IsSome' a W
  | 10, y, _ => y = .int .i64 0
  | _, _, _ => True
theorem VC.keep {L S7 S8 : Value} {x : Option Addr} {N M cap i : Nat} {v : Value} {W V : World} (h : VC L S7 S8 x N M cap i v W) (hb : Below W.heap.size W V) : VC L S7 S8 x N M cap i v V := by
  match i with
  | 0 | 1 | 2 | 3 | 4 | 5 | 7 | 8 | 10 => exact h
  | 6 => exact IsSome'.on h hb
  | 9 =>
    obtain ⟨a, e, h1⟩ := h
    exact ⟨a, e, h1.on hb⟩
  | i + 11 => trivial
theorem belowTr {a b c : World} (h : Below a.heap.size a b) (k : Below b.heap.size b c) : Below a.heap.size a c := h.trans (k.mono h.size)
theorem ints_yes (sv tv : Value) (xs : List Int) (hx : xs.length ≤ 140737488351232) (w : World) (hI : Ints w.heap.size w sv xs) (hJ : Ints w.heap.size w tv xs) :
    Calls Try.prog 12 #[sv, tv] w fun e w' => e = .returned (.bool true) ∧ Below w.heap.size w w' := by
  have := ints_any sv tv xs xs hx w hI hJ
  rwa [show decide (xs = xs) = true by simp] at this
theorem reqs_le (l : List (Int × Int)) : (reqsL l).length ≤ l.length := by
  unfold reqsL
  split
  · exact picks_le l
  · simp
/-- What the two changes leave. -/
def TurnOk (w0 : World) (y : Value) (W : World) : Prop := ∃ x n c l, y = .slice x n c ∧ Row W.heap.size W y l ∧ l.length ≤ 30 ∧ Nums l ∧ Below w0.heap.size w0 W

set_option maxRecDepth 100000 in
set_option maxHeartbeats 8000000 in
theorem walk (v : Value) (l : List (Int × Int)) (hnum : Nums l) (u : Value) (bs : List Int) (hb : ∀ x ∈ bs, 0 ≤ x ∧ x < 256) (t0 t1 t2 : Int) (ht0 : 0 ≤ t0 ∧ t0 ≤ 255) (ht1 : 0 ≤ t1 ∧ t1 ≤ 255) (ht2 : 0 ≤ t2 ∧ t2 ≤ 255) (w : World) (h : Row w.heap.size w v l) (hbs : RowB w.heap.size w u 1 (bs.map byV)) :
    Calls Try.prog 3 #[v, u, .agg #[.int .u8 t0, .int .u8 t1, .int .u8 t2]] w fun e w' => e = .returned (.bool true) ∧ Below w.heap.size w w' := by
  obtain ⟨i0, hi, hz0, hz1, hz2⟩ := info_parts info_stop
  have h' := Lib.hid h
  have hbs' := Lib.hid hbs
  have hb' := Lib.hid hb
  have hnum' := Lib.hid hnum
  obtain ⟨x, N, cap, rfl, hN', h0', hc1, hc2⟩ := h.opened
  obtain ⟨ub, NB, capB, rfl, hNB, hcb1, hcb2⟩ := bytes_open hbs
  obtain ⟨M, hM1, hM2, hM3⟩ : ∃ M : Nat, min (N : Int) 30 = (M : Int) ∧ M ≤ N ∧ M ≤ 30 := ⟨min N 30, by omega, by omega, by omega⟩
  have hcutM := Lib.hid (h.cutTo hN'.out hM2)
  have hMt := Lib.hid (show (l.take M).length = M by rw [List.length_take, hN'.out]; omega)
  have hMn := Lib.hid (show Nums (l.take M) from fun s hs => hnum s (List.mem_of_mem_take hs))
  have hMc : M ≤ cap := by omega
  have hA0 := At.new w 24 #[.int .u8 t0, .int .u8 t1, .int .u8 t2]
  have hB0 : Below w.heap.size w (w.alloc (.cells #[.int .u8 t0, .int .u8 t1, .int .u8 t2] 24)) := bAlloc (Below.refl _ _) _
  clear h hb hbs hnum
  go_enter Try.func3, Try.ntmps3
  go_wp2_with fail
  generalize (w.alloc (.cells #[.int .u8 t0, .int .u8 t1, .int .u8 t2] 24)) = w1 at *
  refine Calls.mono (Made_any _ bs hb'.out _ ((hbs'.out.keep hB0 (Nat.le_refl _)).more hB0.size)) ?_
  rintro e w3 ⟨⟨v3, rfl, m, k, hR, hD, hk6, hkN⟩, hb3⟩
  have hB3 := bStep hB0 hb3
  have hA3 := hA0.keep hb3 hA0.inside
  obtain ⟨y, L, cl, rfl, hL, hy0, hc3, hc4⟩ := hR.opened
  obtain rfl : L = 2 * k := by rw [← hL.out, hD.2.1]
  have hmn := Lib.hid (hD.nums hk6)
  have hmr := Lib.hid hD.1
  have hR' := Lib.hid hR
  have hs3 := hB3.size
  have hAi := hA3.inside
  have hpl := hR.plain
  clear hb3 hA0 hB0 hR hD
  go_upto_region 2 with fail
  have hR2 := Lib.hid (hR'.out.on (bAlloc (Below.refl _ _) (.cells #[] 27)))
  go_upto_region 3 with (at_builtin; refine wpList_append_plain rfl _ _ 22 rfl w3.heap.size 27 i0 (.agg #[.int .i64 0, .int .i64 0]) 2 16 Try.underlying22 hi hz0 hz1 hz2 rfl (by decide) _ _ _ rfl (owns_empty (W := w3) rfl (Nat.le_refl _)) (.slice y (2 * k) cl) (2 * k) ⟨_, _, rfl⟩ hpl (flatS m) rfl (by rw [flatS_length, hL.out]) (fun ad c e => by have h := hR2.out; rw [e] at h; exact h.flat) flatS_one (by unfold maxLen; omega) (by omega) (by simp) ?_; intro v8 w8 hown8 hgrow8)
  have hb8 : Below w3.heap.size w3 w8 := (bAlloc (Below.refl _ _) _).grown hgrow8 (by simp) (fun r e => by cases e; exact Nat.le_refl _)
  rw [Nat.zero_add, List.nil_append] at hown8
  have hA8 := hA3.keep hb8 hAi
  have hown8' := Lib.hid hown8
  have hs8 := hb8.size
  clear hown8 hgrow8 hpl hA3
  obtain ⟨x8, c8, rfl⟩ := rowSlice hown8'.out
  go_upto_if 20 with fail
  go_cut [8] from 20 to 74 (fun s8 wx => TurnOk w3 s8 wx)
  case first =>
    by_cases hk0 : k = 0
    · have hTk : TurnOk w3 (.slice x8 (2 * k) c8) w8 := ⟨x8, _, c8, m, rfl, Row.of_owns hown8'.out hL.out.symm (Nat.le_refl _), by rw [hL.out]; omega, hmn.out, hb8⟩
      subst hk0
      go_wp2_with fail
      all_goals go_meet
      exact hTk
    · obtain ⟨g, rfl, hg3⟩ := ownOpen hown8'.out (by omega)
      have hO := Lib.hid (OwnS.of_owns hown8'.out rfl hL.out)
      have hg8 := hO.out.inside
      have c0 := hA8.cell 0
      have c1 := hA8.cell 1
      have c2 := hA8.cell 2
      simp at c0 c1 c2
      have hX1 : 0 ≤ t0 % (2 * (k : Int)) := Int.emod_nonneg _ (by omega)
      have hX2 : t0 % (2 * (k : Int)) < 2 * (k : Int) := Int.emod_lt_of_pos _ (by omega)
      have hY1 : 0 ≤ t1 % (2 * (k : Int)) := Int.emod_nonneg _ (by omega)
      have hY2 : t1 % (2 * (k : Int)) < 2 * (k : Int) := Int.emod_lt_of_pos _ (by omega)
      have hk0' : 0 < k := by omega
      have hk0'' : (0 : Int) < 2 * (k : Int) := by omega
      obtain ⟨i, hii⟩ : ∃ i : Nat, t0 % (2 * (k : Int)) = i := ⟨(t0 % (2 * (k : Int))).toNat, by omega⟩
      obtain ⟨j, hjj⟩ : ∃ j : Nat, t1 % (2 * (k : Int)) = j := ⟨(t1 % (2 * (k : Int))).toNat, by omega⟩
      have hi2 : i < 2 * k := by omega
      have hj2 : j < 2 * k := by omega
      have hii' := Lib.hid hii
      have hjj' := Lib.hid hjj
      clear hii hjj
      go_upto_region 4 with fail
      go_quiet (fail)
      rw [hii'.out, hjj'.out]
      have hA9 : At (w8.drewN nq) w.heap.size 24 #[.int .u8 t0, .int .u8 t1, .int .u8 t2] := hA8.drewN nq
      have hO9 := Lib.hid (hO.out.keep (V := w8.drewN nq) rfl)
      have hb9 : Below w3.heap.size w3 (w8.drewN nq) := below_drewN hb8 nq
      generalize w8.drewN nq = w9 at *
      obtain ⟨⟨a1, a2⟩, ha, _⟩ := drop_get (l := m) (k := i) (by rw [hL.out]; exact hi2)
      obtain ⟨⟨b1, b2⟩, hb, _⟩ := drop_get (l := m) (k := j) (by rw [hL.out]; exact hj2)
      have hma := Lib.hid (hmn.out _ (List.mem_of_getElem? ha))
      have hmb := Lib.hid (hmn.out _ (List.mem_of_getElem? hb))
      have ha' := Lib.hid ha
      have hbb := Lib.hid hb
      have hAi9 := hA9.inside
      clear c0 c1 c2 hA8 hO hb8 hX1 hX2 hY1 hY2 ha hb
      go_upto_region 5 with fail
      refine Sched.wp_region_sched 14 (fun W V => W.grownBy V (some g)) (VS (.slice (some ⟨g, 0, none⟩) (2 * k) c8) g i j (a1, a2) (b1, b2)) (fun done _ W => ZS g (2 * k) c8 i m (b1, b2) done W) (by kernel_rfl) (by kernel_rfl) (by kernel_rfl) (fun h1 h2 => h1.trans h2) (fun h1 _ => VS.keep h1) (gDrew _ _) (fun ys => ⟨fun h => (by cases h), fun _ => hO9.out.keep rfl, fun h => (by cases h)⟩) (Sched.StepsA.steps (by kernel_rfl) ?hS5) ?hQ5
      case hS5 =>
        simp only [List.take_succ_cons, List.take_zero]
        refine ⟨?_, ?_, ?_, ?_, ?_, ?_, ?_, ?_, ?_, ?_, ?_, ?_, ?_, ?_, trivial⟩
        · intro ys done W aa hE hn hF hD hZ hG hO2
          replace hE : w9.grownBy W (some g) := hE
          have o1 := hO2 8 (by kernel_rfl)
          replace o1 : aa.tmps[8]? = some (.slice (some ⟨g, 0, none⟩) (2 * k) c8) := o1
          go_wp2_with fail
          exact ⟨_, rfl, gRefl' _ _, rfl, hZ.light (by decide)⟩
        · intro ys done W aa hE hn hF hD hZ hG hO2
          replace hE : w9.grownBy W (some g) := hE
          have o1 := hO2 9 (by kernel_rfl)
          replace o1 : aa.tmps[9]? = some (.int .i64 i) := o1
          go_wp2_with fail
          exact ⟨_, rfl, gRefl' _ _, rfl, hZ.light (by decide)⟩
        · intro ys done W aa hE hn hF hD hZ hG hO2
          replace hE : w9.grownBy W (some g) := hE
          have o1 := hO2 8 (by kernel_rfl)
          replace o1 : aa.tmps[8]? = some (.slice (some ⟨g, 0, none⟩) (2 * k) c8) := o1
          go_wp2_with fail
          exact ⟨_, rfl, gRefl' _ _, rfl, hZ.light (by decide)⟩
        · intro ys done W aa hE hn hF hD hZ hG hO2
          replace hE : w9.grownBy W (some g) := hE
          have o1 := hO2 10 (by kernel_rfl)
          replace o1 : aa.tmps[10]? = some (.int .i64 j) := o1
          go_wp2_with fail
          exact ⟨_, rfl, gRefl' _ _, rfl, hZ.light (by decide)⟩
        · intro ys done W aa hE hn hF hD hZ hG hO2
          replace hE : w9.grownBy W (some g) := hE
          have o1 := hO2 8 (by kernel_rfl)
          replace o1 : aa.tmps[8]? = some (.slice (some ⟨g, 0, none⟩) (2 * k) c8) := o1
          go_wp2_with fail
          exact ⟨_, rfl, gRefl' _ _, rfl, hZ.light (by decide)⟩
        · intro ys done W aa hE hn hF hD hZ hG hO2
          replace hE : w9.grownBy W (some g) := hE
          have o1 := hO2 10 (by kernel_rfl)
          replace o1 : aa.tmps[10]? = some (.int .i64 j) := o1
          go_wp2_with fail
          exact ⟨_, rfl, gRefl' _ _, rfl, hZ.light (by decide)⟩
        · intro ys done W aa hE hn hF hD hZ hG hO2
          replace hE : w9.grownBy W (some g) := hE
          have v4 := hF 4 (by decide) (hD 4 (by kernel_rfl))
          replace v4 : ys 4 = .slice (some ⟨g, 0, none⟩) (2 * k) c8 := v4
          have g4 := hG 4 37 rfl (Nat.le_of_ble_eq_true rfl)
          rw [v4] at g4
          have v5 := hF 5 (by decide) (hD 5 (by kernel_rfl))
          replace v5 : ys 5 = .int .i64 j := v5
          have g5 := hG 5 38 rfl (Nat.le_of_ble_eq_true rfl)
          rw [v5] at g5
          go_wp2_with fail
          exact ⟨_, rfl, gRefl' _ _, rfl, hZ.light (by decide)⟩
        · intro ys done W aa hE hn hF hD hZ hG hO2
          replace hE : w9.grownBy W (some g) := hE
          have v6 := hF 6 (by decide) (hD 6 (by kernel_rfl))
          replace v6 : ys 6 = .pointer (some ⟨g, j * 2, none⟩) := v6
          have g6 := hG 6 39 rfl (Nat.le_of_ble_eq_true rfl)
          rw [v6] at g6
          have h13 : done 13 = false := by
            cases hd : done 13
            · rfl
            · have := (hZ.ord hd).1
              rw [hn] at this; cases this
          have hc := (hZ.no h13).cells hbb.out
          obtain ⟨e0, e1⟩ := hc
          simp only at e0 e1
          go_wp2_with fail
          exact ⟨_, rfl, gRefl' _ _, rfl, hZ.light (by decide)⟩
        · intro ys done W aa hE hn hF hD hZ hG hO2
          replace hE : w9.grownBy W (some g) := hE
          have o1 := hO2 8 (by kernel_rfl)
          replace o1 : aa.tmps[8]? = some (.slice (some ⟨g, 0, none⟩) (2 * k) c8) := o1
          go_wp2_with fail
          exact ⟨_, rfl, gRefl' _ _, rfl, hZ.light (by decide)⟩
        · intro ys done W aa hE hn hF hD hZ hG hO2
          replace hE : w9.grownBy W (some g) := hE
          have o1 := hO2 9 (by kernel_rfl)
          replace o1 : aa.tmps[9]? = some (.int .i64 i) := o1
          go_wp2_with fail
          exact ⟨_, rfl, gRefl' _ _, rfl, hZ.light (by decide)⟩
        · intro ys done W aa hE hn hF hD hZ hG hO2
          replace hE : w9.grownBy W (some g) := hE
          have v8 := hF 8 (by decide) (hD 8 (by kernel_rfl))
          replace v8 : ys 8 = .slice (some ⟨g, 0, none⟩) (2 * k) c8 := v8
          have g8 := hG 8 41 rfl (Nat.le_of_ble_eq_true rfl)
          rw [v8] at g8
          have v9 := hF 9 (by decide) (hD 9 (by kernel_rfl))
          replace v9 : ys 9 = .int .i64 i := v9
          have g9 := hG 9 42 rfl (Nat.le_of_ble_eq_true rfl)
          rw [v9] at g9
          go_wp2_with fail
          exact ⟨_, rfl, gRefl' _ _, rfl, hZ.light (by decide)⟩
        · intro ys done W aa hE hn hF hD hZ hG hO2
          replace hE : w9.grownBy W (some g) := hE
          have v10 := hF 10 (by decide) (hD 10 (by kernel_rfl))
          replace v10 : ys 10 = .pointer (some ⟨g, i * 2, none⟩) := v10
          have g10 := hG 10 43 rfl (Nat.le_of_ble_eq_true rfl)
          rw [v10] at g10
          have h13 : done 13 = false := by
            cases hd : done 13
            · rfl
            · have := (hZ.ord hd).2
              rw [hn] at this; cases this
          have hc := (hZ.no h13).cells ha'.out
          obtain ⟨e0, e1⟩ := hc
          simp only at e0 e1
          go_wp2_with fail
          exact ⟨_, rfl, gRefl' _ _, rfl, hZ.light (by decide)⟩
        · intro ys done W aa hE hn hF hD hZ hG hO2
          replace hE : w9.grownBy W (some g) := hE
          have v0 := hF 0 (by decide) (hD 0 (by kernel_rfl))
          replace v0 : ys 0 = .slice (some ⟨g, 0, none⟩) (2 * k) c8 := v0
          have g0 := hG 0 33 rfl (Nat.le_of_ble_eq_true rfl)
          rw [v0] at g0
          have v1 := hF 1 (by decide) (hD 1 (by kernel_rfl))
          replace v1 : ys 1 = .int .i64 i := v1
          have g1 := hG 1 34 rfl (Nat.le_of_ble_eq_true rfl)
          rw [v1] at g1
          go_wp2_with fail
          exact ⟨_, rfl, gRefl' _ _, rfl, hZ.light (by decide)⟩
        · intro ys done W aa hE hn hF hD hZ hG hO2
          replace hE : w9.grownBy W (some g) := hE
          have v12 := hF 12 (by decide) (hD 12 (by kernel_rfl))
          replace v12 : ys 12 = .pointer (some ⟨g, i * 2, none⟩) := v12
          have g12 := hG 12 45 rfl (Nat.le_of_ble_eq_true rfl)
          rw [v12] at g12
          have v7 := hF 7 (by decide) (hD 7 (by kernel_rfl))
          replace v7 : ys 7 = .agg #[.int .i64 b1, .int .i64 b2] := v7
          have g7 := hG 7 40 rfl (Nat.le_of_ble_eq_true rfl)
          rw [v7] at g7
          have hno := hZ.no hn
          obtain ⟨e0, e1⟩ := hno.cells ha'.out
          simp only at e0 e1
          have hf := hno.free
          have hd7 := hD 7 (by kernel_rfl)
          have hd11 := hD 11 (by kernel_rfl)
          have hput := hno.put hi2 b1 b2
          go_wp2_with fail
          exact ⟨(put_grown _ _ _ _).trans (put_grown _ _ _ _), ⟨undef, trivial⟩, ⟨fun _ => ⟨mark_of hd7, mark_of hd11⟩, fun h => by simp [Sched.mark] at h, fun _ => hput⟩⟩
      case hQ5 =>
        intro ys W hE hF hZ
        obtain ⟨done, hd, hZ⟩ := hZ
        have hO10 := hZ.yes (hd 13 (by decide))
        replace hE : w9.grownBy W (some g) := hE
        have v2 : ys 2 = .slice (some ⟨g, 0, none⟩) (2 * k) c8 := hF 2 (by decide)
        have v3 : ys 3 = .int .i64 j := hF 3 (by decide)
        have v11 : ys 11 = .agg #[.int .i64 a1, .int .i64 a2] := hF 11 (by decide)
        simp only [List.take_succ_cons, List.take_zero, List.drop_succ_cons, List.drop_zero, Sched.fill, v2, v3, v11]
        have hb10 : Below w3.heap.size w3 W := hb9.grown hE hb9.size (fun r e => by cases e; exact hg3)
        have hA10 := gAt hA9 hE (by have := hAi; simp; omega)
        have hl10 : ((m.set i (b1, b2))).length = 2 * k := by rw [List.length_set]; exact hL.out
        obtain ⟨⟨p1, p2⟩, hp, _⟩ := drop_get (l := m.set i (b1, b2)) (k := j) (by rw [hl10]; exact hj2)
        obtain ⟨e0, e1⟩ := hO10.cells hp
        simp only at e0 e1
        have hf := hO10.free
        have hput := Lib.hid (hO10.put hj2 a1 a2)
        have hnn := Lib.hid (Nums.set (Nums.set hmn.out i (s := (b1, b2)) hmb.out) j (s := (a1, a2)) hma.out)
        have hll := Lib.hid (show ((m.set i (b1, b2)).set j (a1, a2)).length = 2 * k by rw [List.length_set, List.length_set]; exact hL.out)
        have hb11 := (hb10.setCell (show w3.heap.size ≤ (⟨g, j * 2, none⟩ : Addr).block from hg3) (.int .i64 a1)).setCell (show w3.heap.size ≤ (⟨g, j * 2 + 1, none⟩ : Addr).block from hg3) (.int .i64 a2)
        have hA11 := (hA10.far (show w.heap.size ≠ g by omega) (j * 2) (.int .i64 a1)).far (show w.heap.size ≠ g by omega) (j * 2 + 1) (.int .i64 a2)
        clear hF v2 v3 v11 hZ hd hp hO10 hb10 hA10 hE hO9 hA9 hb9 hl10
        go_simp
        go_upto_region 6 with fail
        clear e0 e1 hf
        generalize ((W.setCell ⟨g, j * 2, none⟩ (.int .i64 a1)).setCell ⟨g, j * 2 + 1, none⟩ (.int .i64 a2)) = wa at *
        generalize ((m.set i (b1, b2)).set j (a1, a2)) = la at *
        have c0 := hA11.cell 0
        have c1 := hA11.cell 1
        have c2 := hA11.cell 2
        simp at c0 c1 c2
        obtain ⟨⟨q1, q2⟩, hq, _⟩ := drop_get (l := la) (k := i) (by rw [hll.out]; exact hi2)
        obtain ⟨e0, e1⟩ := hput.out.cells hq
        simp only at e0 e1
        have hf := hput.out.free
        have hq' := Lib.hid hq
        have hqn := Lib.hid (hnn.out _ (List.mem_of_getElem? hq))
        obtain ⟨⟨r1, r2⟩, hr, _⟩ := drop_get (l := la) (k := j) (by rw [hll.out]; exact hj2)
        obtain ⟨f0, f1⟩ := hput.out.cells hr
        simp only at f0 f1
        have hr' := Lib.hid hr
        have hrn := Lib.hid (hnn.out _ (List.mem_of_getElem? hr))
        replace hq' := hq'.out
        replace hr' := hr'.out
        have hd03 : t2 % 4 = 0 ∨ (¬ t2 % 4 = 0 ∧ t2 % 4 = 1) ∨ (¬ t2 % 4 = 0 ∧ ¬ t2 % 4 = 1) := by omega
        rcases hd03 with d0 | ⟨d0, d3⟩ | ⟨d0, d3⟩
        · have d1 : (t2 % 4 == 0) = true := by simpa using d0
          have d2 : (t2 % 4 == 1) = false := by simp; omega
          have hT : TurnOk w3 (.slice (some ⟨g, 0, none⟩) (2 * k) c8) (wa.setCell ⟨g, i * 2 + 1, none⟩ (.int .i64 (t2 / 4 % 4 - 1))) := ⟨_, _, c8, _, rfl, (hput.out.put1 hq' (t2 / 4 % 4 - 1)).row, by rw [List.length_set, hll.out]; omega, Nums.set hnn.out i ⟨hqn.out.1, by unfold I64; omega⟩, hb11.setCell (show w3.heap.size ≤ (⟨g, i * 2 + 1, none⟩ : Addr).block from hg3) _⟩
          have hT' := Lib.hid hT
          clear hT hb11
          go_wp2_with fail
          all_goals go_meet
          exact hT'.out
        · have d1 : (t2 % 4 == 0) = false := by simpa using d0
          have d2 : (t2 % 4 == 1) = true := by simpa using d3
          have hT : TurnOk w3 (.slice (some ⟨g, 0, none⟩) (2 * k) c8) (wa.setCell ⟨g, j * 2, none⟩ (.int .i64 (t2 / 4 % 8 - 1))) := ⟨_, _, c8, _, rfl, (hput.out.put0 hr' (t2 / 4 % 8 - 1)).row, by rw [List.length_set, hll.out]; omega, Nums.set hnn.out j ⟨by unfold I64; omega, hrn.out.2⟩, hb11.setCell (show w3.heap.size ≤ (⟨g, j * 2, none⟩ : Addr).block from hg3) _⟩
          have hT' := Lib.hid hT
          clear hT hb11
          go_wp2_with fail
          all_goals go_meet
          exact hT'.out
        · have d1 : (t2 % 4 == 0) = false := by simpa using d0
          have d2 : (t2 % 4 == 1) = false := by simpa using d3
          have hT : TurnOk w3 (.slice (some ⟨g, 0, none⟩) (2 * k) c8) wa := ⟨_, _, c8, la, rfl, hput.out.row, by rw [hll.out]; omega, hnn.out, hb11⟩
          have hT' := Lib.hid hT
          clear hT hb11
          go_wp2_with fail
          all_goals go_meet
          exact hT'.out
  case rest =>
    obtain ⟨xT, nT, cT, lT, rfl, hRT, hlT, hnT, hbT⟩ := hcut
    have hBc := bStep hB3 hbT
    have hrowc := Lib.hid ((h'.out.keep hBc (Nat.le_refl _)).more hBc.size)
    have hmade := Lib.hid (hR'.out.on hbT)
    have hRT' := Lib.hid hRT
    have hlT' := Lib.hid hlT
    have hnT' := Lib.hid hnT
    clear hRT hlT hnT hb8 hA8
    go_upto_region 10 with fail
    refine Sched.wp_region_schedA 11 (fun W W' => Below W.heap.size W W') (VC (.slice x N cap) (.slice y (2 * k) cl) (.slice xT nT cT) x N M cap) (fun _ _ _ => True) rfl (by kernel_rfl) (by kernel_rfl) (by kernel_rfl) (by kernel_rfl) (fun h1 h2 => belowTr h1 h2) (fun h1 h2 => VC.keep h1 h2) (Below.refl _ _).drew (fun _ => trivial) (Sched.StepsA.steps (by kernel_rfl) ?hS1) ?hQ1
    case hS1 =>
      simp only [List.take_succ_cons, List.take_zero]
      refine ⟨?_, ?_, ?_, ?_, ?_, ?_, ?_, ?_, ?_, ?_, ?_, trivial⟩
      · intro ys done W aa hE hn hF hD hZ hG hO
        replace hE : Below wc.heap.size wc W := hE
        have o1 := hO 0 (by kernel_rfl)
        replace o1 : aa.tmps[0]? = some (.slice x N cap) := o1
        go_wp2_with fail
        first | exact ⟨_, rfl, Below.refl _ _, rfl, trivial⟩ | exact ⟨_, rfl, Below.refl _ _, rfl⟩
      · intro ys done W aa hE hn hF hD hZ hG hO
        replace hE : Below wc.heap.size wc W := hE
        have o1 := hO 0 (by kernel_rfl)
        replace o1 : aa.tmps[0]? = some (.slice x N cap) := o1
        go_wp2_with fail
        first | exact ⟨_, rfl, Below.refl _ _, rfl, trivial⟩ | exact ⟨_, rfl, Below.refl _ _, rfl⟩
      · intro ys done W aa hE hn hF hD hZ hG hO
        replace hE : Below wc.heap.size wc W := hE
        have v1 := hF 1 (by decide) (hD 1 (by kernel_rfl))
        replace v1 : ys 1 = .slice x N cap := v1
        have g1 := hG 1 76 rfl (Nat.le_of_ble_eq_true rfl)
        rw [v1] at g1
        go_wp2_with fail
        first | exact ⟨_, rfl, Below.refl _ _, rfl, trivial⟩ | exact ⟨_, rfl, Below.refl _ _, rfl⟩
      · intro ys done W aa hE hn hF hD hZ hG hO
        replace hE : Below wc.heap.size wc W := hE
        have v2 := hF 2 (by decide) (hD 2 (by kernel_rfl))
        replace v2 : ys 2 = .int .i64 N := v2
        have g2 := hG 2 77 rfl (Nat.le_of_ble_eq_true rfl)
        rw [v2] at g2
        go_wp2_with fail
        first | exact ⟨_, rfl, Below.refl _ _, rfl, trivial⟩ | exact ⟨_, rfl, Below.refl _ _, rfl⟩
      · intro ys done W aa hE hn hF hD hZ hG hO
        replace hE : Below wc.heap.size wc W := hE
        have v0 := hF 0 (by decide) (hD 0 (by kernel_rfl))
        replace v0 : ys 0 = .slice x N cap := v0
        have g0 := hG 0 75 rfl (Nat.le_of_ble_eq_true rfl)
        rw [v0] at g0
        have v3 := hF 3 (by decide) (hD 3 (by kernel_rfl))
        replace v3 : ys 3 = .int .i64 M := v3
        have g3 := hG 3 78 rfl (Nat.le_of_ble_eq_true rfl)
        rw [v3] at g3
        go_wp2_with fail
        first | exact ⟨_, rfl, Below.refl _ _, rfl, trivial⟩ | exact ⟨_, rfl, Below.refl _ _, rfl⟩
      · intro ys done W aa hE hn hF hD hZ hG hO
        replace hE : Below wc.heap.size wc W := hE
        have o1 := hO 0 (by kernel_rfl)
        replace o1 : aa.tmps[0]? = some (.slice x N cap) := o1
        go_wp2_with fail
        first | exact ⟨_, rfl, Below.refl _ _, rfl, trivial⟩ | exact ⟨_, rfl, Below.refl _ _, rfl⟩
      · intro ys done W aa hE hn hF hD hZ hG hO
        replace hE : Below wc.heap.size wc W := hE
        have v5 := hF 5 (by decide) (hD 5 (by kernel_rfl))
        replace v5 : ys 5 = .slice x N cap := v5
        have g5 := hG 5 80 rfl (Nat.le_of_ble_eq_true rfl)
        rw [v5] at g5
        go_wp2_with fail
        refine Calls.mono (near_any _ l hnum'.out _ (hrowc.out.on hE)) ?_
        rintro e w5 ⟨⟨v5', rfl, hv5⟩, hb5⟩
        go_wp2_with fail
        have hv5' := hv5
        obtain ⟨l5, hR5, _⟩ := hv5'
        obtain ⟨x5, n5, c5, e5, _⟩ := hR5.opened
        first | exact ⟨_, rfl, hb5, ⟨x5, n5, c5, e5, hv5⟩, trivial⟩ | exact ⟨_, rfl, hb5, ⟨x5, n5, c5, e5, hv5⟩⟩
      · intro ys done W aa hE hn hF hD hZ hG hO
        replace hE : Below wc.heap.size wc W := hE
        have o1 := hO 7 (by kernel_rfl)
        replace o1 : aa.tmps[7]? = some (.slice y (2 * k) cl) := o1
        go_wp2_with fail
        first | exact ⟨_, rfl, Below.refl _ _, rfl, trivial⟩ | exact ⟨_, rfl, Below.refl _ _, rfl⟩
      · intro ys done W aa hE hn hF hD hZ hG hO
        replace hE : Below wc.heap.size wc W := hE
        have o1 := hO 8 (by kernel_rfl)
        replace o1 : aa.tmps[8]? = some (.slice xT nT cT) := o1
        go_wp2_with fail
        first | exact ⟨_, rfl, Below.refl _ _, rfl, trivial⟩ | exact ⟨_, rfl, Below.refl _ _, rfl⟩
      · intro ys done W aa hE hn hF hD hZ hG hO
        replace hE : Below wc.heap.size wc W := hE
        have v4 := hF 4 (by decide) (hD 4 (by kernel_rfl))
        replace v4 : ys 4 = .slice x M cap := v4
        have g4 := hG 4 79 rfl (Nat.le_of_ble_eq_true rfl)
        rw [v4] at g4
        have v7 := hF 7 (by decide) (hD 7 (by kernel_rfl))
        replace v7 : ys 7 = .slice y (2 * k) cl := v7
        have g7 := hG 7 82 rfl (Nat.le_of_ble_eq_true rfl)
        rw [v7] at g7
        have v8 := hF 8 (by decide) (hD 8 (by kernel_rfl))
        replace v8 : ys 8 = .slice xT nT cT := v8
        have g8 := hG 8 83 rfl (Nat.le_of_ble_eq_true rfl)
        rw [v8] at g8
        have i6 : IsSome' (ys 6) W := hF 6 (by decide) (hD 6 (by kernel_rfl))
        have i6' := i6
        obtain ⟨x6, n6, c6, e6, _⟩ := i6'
        have g6 := hG 6 81 rfl (Nat.le_of_ble_eq_true rfl)
        rw [e6] at g6
        rw [e6] at i6
        go_wp2_with fail
        first | exact ⟨_, rfl, Below.refl _ _, ⟨_, rfl, i6⟩, trivial⟩ | exact ⟨_, rfl, Below.refl _ _, ⟨_, rfl, i6⟩⟩
      · intro ys done W aa hE hn hF hD hZ hG hO
        replace hE : Below wc.heap.size wc W := hE
        go_wp2_with fail
        first | exact ⟨_, rfl, Below.refl _ _, rfl, trivial⟩ | exact ⟨_, rfl, Below.refl _ _, rfl⟩
    case hQ1 =>
      intro ys w6 hE hF _
      replace hE : Below wc.heap.size wc w6 := hE
      obtain ⟨a5, e9, i5⟩ : ∃ a, ys 9 = .agg #[.slice x M cap, a, .slice y (2 * k) cl, .slice xT nT cT] ∧ IsSome' a w6 := hF 9 (by decide)
      have v10 : ys 10 = .int .i64 0 := hF 10 (by decide)
      simp only [List.take_succ_cons, List.take_zero, List.drop_succ_cons, List.drop_zero, Sched.fill, e9, v10]
      have hB6 := bStep hBc hE
      have hR4 := Lib.hid ((hcutM.out.keep hB6 (Nat.le_refl _)).more hB6.size)
      have hmade6 := Lib.hid (hmade.out.on hE)
      have hRT6 := Lib.hid (hRT'.out.on hE)
      obtain ⟨x5, n5, c5, rfl, l5, hR5, hl5, hn5⟩ := i5
      have hR5' := Lib.hid hR5
      have hl5' := Lib.hid hl5
      have hn5' := Lib.hid hn5
      clear hF e9 v10 hE hR5 hl5 hn5 hmade hRT' hrowc
      go_simp
      have ia : ∀ q : Nat, q < 4 → ∃ (xk : Option Addr) (nk ck : Nat) (lk : List (Int × Int)), (∀ w, (Instr.index 29 (.agg #[.slice x M cap, .slice x5 n5 c5, .slice y (2 * k) cl, .slice xT nT cT]) (.int .i64 (q : Int))).run Try.prog w = .ok (.slice xk nk ck) w) ∧ Hid (Row w6.heap.size w6 (.slice xk nk ck) lk ∧ lk.length ≤ 30 ∧ Nums lk) := by
        intro q hq
        match q, hq with
        | 0, _ => exact ⟨x, M, cap, l.take M, fun _ => by kernel_rfl, Lib.hid ⟨hR4.out, by rw [hMt.out]; omega, hMn.out⟩⟩
        | 1, _ => exact ⟨x5, n5, c5, l5, fun _ => by kernel_rfl, Lib.hid ⟨hR5'.out, hl5'.out, hn5'.out⟩⟩
        | 2, _ => exact ⟨y, 2 * k, cl, m, fun _ => by kernel_rfl, Lib.hid ⟨hmade6.out, by rw [hL.out]; omega, hmn.out⟩⟩
        | 3, _ => exact ⟨xT, nT, cT, lT, fun _ => by kernel_rfl, Lib.hid ⟨hRT6.out, hlT'.out, hnT'.out⟩⟩
      have ia' := Lib.hid ia
      clear ia hR4 hR5' hl5' hn5' hRT6
      go_wp2_with fail
      go_loopw [85] (fun i wr => ∃ q : Nat, q ≤ 4 ∧ i = .int .i64 q ∧ Below w6.heap.size w6 wr) (fun i _ => 4 - (intOf i).toNat)
      case atStart => exact ⟨0, by omega, rfl, Below.refl _ _⟩
      case round =>
        obtain ⟨q, hq, rfl, hbw⟩ := hrel
        by_cases hlt : q < 4
        · obtain ⟨xk, nk, ck, lk, hix, hRk⟩ := ia'.out q hlt
          have t3 : decide ((q : Int) < 4) = true := by rw [decide_eq_true_eq]; omega
          have hkl := Lib.hid (show lk.length ≤ 1000000 by have := hRk.out.2.1; omega)
          have hri := Lib.hid (show (reqsL lk).length ≤ 140737488351232 by have := reqs_le lk; have := hRk.out.2.1; omega)
          have hR0 := Lib.hid (hRk.out.1.on hbw)
          go_wp2_with fail
          refine Calls.mono (Check_any _ lk hkl.out hRk.out.2.2 _ hR0.out) ?_
          rintro e w7 ⟨rfl, hb7⟩
          have hB7 := bStep hbw hb7
          have hR7 := Lib.hid (hR0.out.on hb7)
          clear hb7 hbw hR0 hix t3
          go_wp2_with fail
          refine Calls.mono (refCheck_any _ lk hkl.out _ hR7.out) ?_
          rintro e w8' ⟨rfl, hb8⟩
          have hB8 := bStep hB7 hb8
          have hR8 := Lib.hid (hR7.out.on hb8)
          generalize checkV lk = CC at *
          have hcc : (CC != CC) = false := by simp
          clear hb8 hB7 hR7
          go_wp2_with fail
          refine Calls.mono (Requests_any _ lk hkl.out hRk.out.2.2 _ hR8.out) ?_
          rintro e w9 ⟨⟨v9, rfl, hv9⟩, hb9⟩
          have hB9 := bStep hB8 hb9
          have hR9 := Lib.hid (hR8.out.on hb9)
          have hv9' := Lib.hid hv9
          obtain ⟨y9, n9, c9, rfl, _, _, _⟩ := hv9.opened
          clear hb9 hB8 hR8 hv9
          go_wp2_with fail
          refine Calls.mono (refRequests_any _ lk hkl.out _ hR9.out) ?_
          rintro e w10 ⟨⟨v10, rfl, hv10⟩, hb10⟩
          have hB10 := bStep hB9 hb10
          have hv9'' := Lib.hid (hv9'.out.on hb10)
          have hv10' := Lib.hid hv10
          obtain ⟨y10, n10, c10, rfl, _, _, _⟩ := hv10.opened
          clear hb10 hB9 hR9 hv10 hv9'
          go_wp2_with fail
          refine Calls.mono (ints_yes _ _ (reqsL lk) hri.out _ hv9''.out hv10'.out) ?_
          rintro e w11 ⟨rfl, hb11⟩
          have hB11 := bStep hB10 hb11
          clear hb11 hB10 hv9'' hv10'
          go_wp2
          go_roundw
          case rel => exact ⟨q + 1, by omega, by go_num, hB11⟩
          case measure => simp [intOf]; omega
        · obtain rfl : q = 4 := by omega
          have hck := Lib.hid (chk_good (l := m) (by rw [hL.out]; omega) hmr.out)
          have hmw := Lib.hid (hmade6.out.on hbw)
          go_wp2_with fail
          refine Calls.mono (Check_any _ m (by rw [hL.out]; omega) hmn.out _ hmw.out) ?_
          rintro e w7 ⟨rfl, hb7⟩
          rw [hck.out]
          have hB7 := bStep hbw hb7
          clear hb7 hbw hmw
          go_wp2_with fail
          refine Calls.mono (works_any _) ?_
          rintro e w8' ⟨rfl, hb8⟩
          have hB8 := bStep hB6 (bStep hB7 hb8)
          go_wp2
          go_ret
          exact ⟨rfl, hB8⟩

set_option maxRecDepth 100000 in
theorem lifted (os : Os) (started : os.Started) (H : Type) (enc : TypeId × Value → H) :
    ReturnsInHanded {} Try.checked os 3 .any (Rows.routeChecksSpec.pre6 enc Try.prog Try.f3 Rows.routeChecksRow.domain false) (Rows.routeChecksSpec.post enc Try.prog Try.f3 false true false false) := by
  refine returnsInHanded_of_change (C := Try.checked) own started (by kernel_rfl) Try.func3
    (ChangeSpec.witness6 (enc := enc) (C := Try.checked) false ⟨#[], #[.slice none 0 0, .slice none 0 0, .agg #[.int .u8 0, .int .u8 0, .int .u8 0]], []⟩ 8 (by kernel_rfl) (by kernel_rfl) (by kernel_rfl) (by kernel_rfl)) ?_
  intro W base args ds gs before hval0 hW hcnd _
  have hval : ∀ (j : Nat) t v, Try.f3.params[j]? = some t → args[j]? = some v → Value.okWide Try.prog W .any base t v := hval0
  have hW' := hW
  obtain ⟨p, q, hA0, hV, rfl, hfz, hnd⟩ := hW
  have hA : DataW.TrodAll enc Try.prog W 0 (fun _ => true) true Try.f3.params.toList args.toList ds p := hA0
  rw [Try.params3] at hA hval
  obtain ⟨v0, vs0, d0, ds0, p0, q0, hargs, rfl, rfl, h0, r0⟩ := trodAll_cons hA
  obtain ⟨v1, vs1, d1, ds1, p1, q1, rfl, rfl, rfl, h1, r1⟩ := trodAll_cons r0
  obtain ⟨v2, vs2, d2, ds2, p2, q2, rfl, rfl, rfl, h2, r2⟩ := trodAll_cons r1
  obtain ⟨rfl, rfl, rfl⟩ := trodAll_nil r2
  obtain rfl : args = #[v0, v1, v2] := by cases args; simp_all
  obtain ⟨rfl, rfl⟩ := trodVars_none hV
  obtain ⟨l, hrow, hnum⟩ := openStops (hval 0 22 v0 rfl rfl) h0
  obtain ⟨bs, hby, hbs⟩ := openBytes (hval 1 23 v1 rfl rfl) h1
  obtain ⟨xs, hl, hv, hxs⟩ := Close.open_numbers Try.underlying24 Try.underlying5 (by kernel_rfl) (by kernel_rfl) (hval 2 24 v2 rfl rfl) h2
  obtain ⟨m0, m1, m2, rfl⟩ : ∃ a b c, xs = [a, b, c] := by
    match xs, hl with
    | [a, b, c], _ => exact ⟨a, b, c, rfl⟩
  obtain rfl : v2 = .agg #[.int .u8 m0, .int .u8 m1, .int .u8 m2] := by simpa using hv
  exact (walk v0 l hnum v1 bs hbs m0 m1 m2 (u8_ends (hxs m0 (by simp))) (u8_ends (hxs m1 (by simp))) (u8_ends (hxs m2 (by simp))) W hrow hby).mono fun e W' ⟨he, hb⟩ => ⟨_, he, Close.law_post laidOut (by kernel_rfl) rfl (by kernel_rfl) Try.underlying4 hW' rfl hb⟩

theorem over : Rows.routeChecksRow.holds Try.pinned (OpenSpec.ofChange Rows.routeChecksSpec) :=
  OpenClaim.holds_of_wide 3 Try.f3 rfl rfl rfl rfl rfl rfl rfl ⟨rfl, rfl, rfl, rfl, rfl⟩ rfl rfl rfl rfl rfl (by kernel_rfl) Try.func3 (by kernel_rfl)
    (of_decide_eq_true (by kernel_rfl)) (by unfold Func.isWrapper; first | (rw [if_pos (by decide +kernel)]; kernel_rfl) | (rw [if_neg (by decide +kernel)]; exact ⟨rfl, rfl⟩))
    (fun os started H enc _ => lifted os started H enc)

theorem proved : Rows.RouteChecksSaid := over
#print axioms proved

end Go.Proofs.Ytkeijbefamlckaa.routeChecks

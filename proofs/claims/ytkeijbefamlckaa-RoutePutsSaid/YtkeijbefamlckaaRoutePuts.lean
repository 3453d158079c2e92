/-
  RoutePuts returns true for all stops, bytes and numbers: what a row is with a request more, and without one, and where one stands, is as the document says. Conditions: none but that the arguments are such values.
-/
import Derived.Test.YtkeijbefamlckaaRouteWorks
import Derived.Test.YtkeijbefamlckaaRouteNear
import Derived.Test.YtkeijbefamlckaaRouteOpen
import Derived.Test.YtkeijbefamlckaaSchedAll
namespace Go.Proofs.Ytkeijbefamlckaa.routePuts
open Go.ChangeShapes Go.WideShapes Go.ChangeAt Go.RowKit Go.Sort Go.Proofs.Ytkeijbefamlckaa.Mem Go.Proofs.Ytkeijbefamlckaa.Route
set_option linter.unusedVariables false

def IsSome' (y : Value) (W : World) : Prop := ∃ x n c, y = .slice x n c ∧ SomeOk 30 W y
def IsMade (NB : Nat) (y : Value) (W : World) : Prop := ∃ x n c, y = .slice x n c ∧ MadeOk NB W y
theorem IsSome'.on {y : Value} {W V : World} (h : IsSome' y W) (hb : Below W.heap.size W V) : IsSome' y V := by
  obtain ⟨x, n, c, e, l, h1, h2⟩ := h
  exact ⟨x, n, c, e, l, h1.on hb, h2⟩
theorem IsMade.on {NB : Nat} {y : Value} {W V : World} (h : IsMade NB y W) (hb : Below W.heap.size W V) : IsMade NB y V := by
  obtain ⟨x, n, c, e, l, k, h1, h2⟩ := h
  exact ⟨x, n, c, e, l, k, h1.on hb, h2⟩
/-- What the operations leave that lay the three rows. -/
def VP (L U : Value) (x : Option Addr) (N M cap NB : Nat) : Nat → Value → World → Prop
  | 0, y, _ => y = L
  | 1, y, _ => y = L
  | 2, y, _ => y = .int .i64 N
  | 3, y, _ => y = .int .i64 M
  | 4, y, _ => y = .slice x M cap
  | 5, y, _ => y = L
  | 6, y, W => IsSome' y W
  | 7, y, _ => y = U
  | 8, y, W => IsMade NB y W
  | 9, y, W => ∃ a b, y = .agg #[.slice x M cap, a, b] ∧ IsSome' a W ∧ IsMade NB b W
  | 10, y, _ => y = .int .i64 0
  | _, _, _ => True
theorem VP.keep {L U : Value} {x : Option Addr} {N M cap NB i : Nat} {v : Value} {W V : World} (h : VP L U x N M cap NB i v W) (hb : Below W.heap.size W V) : VP L U x N M cap NB i v V := by
  match i with
  | 0 | 1 | 2 | 3 | 4 | 5 | 7 | 10 => exact h
  | 6 => exact IsSome'.on h hb
  | 8 => exact IsMade.on h hb
  | 9 =>
    obtain ⟨a, b, e, h1, h2⟩ := h
    exact ⟨a, b, e, h1.on hb, h2.on hb⟩
  | i + 11 => trivial
theorem keepB {W V w0 : World} {q : Nat} {u : Value} (hb : Below W.heap.size W V) (h : W.cell? ⟨q, 0, none⟩ = some u ∧ Below w0.heap.size w0 W) : V.cell? ⟨q, 0, none⟩ = some u ∧ Below w0.heap.size w0 V :=
  ⟨(hb.cell (p := ⟨q, 0, none⟩) (block_lt_of_cell h.1)).trans h.1, h.2.trans (hb.mono h.2.size)⟩
theorem keepD {W w0 : World} {q : Nat} {u : Value} (h : W.cell? ⟨q, 0, none⟩ = some u ∧ Below w0.heap.size w0 W) : W.drew.cell? ⟨q, 0, none⟩ = some u ∧ Below w0.heap.size w0 W.drew := ⟨h.1, h.2.drew⟩
theorem same_yes (sv tv : Value) (xs : List (Int × Int)) (hx : xs.length ≤ 140737488351232) (w : World) (hI : Row w.heap.size w sv xs) (hJ : Row w.heap.size w tv xs) :
    Calls Try.prog 20 #[sv, tv] w fun e w' => e = .returned (.bool true) ∧ Below w.heap.size w w' := by
  have := Same_any sv tv xs xs hx w hI hJ
  rwa [show decide (xs = xs) = true by simp] at this
theorem belowTr {a b c : World} (h : Below a.heap.size a b) (k : Below b.heap.size b c) : Below a.heap.size a c := h.trans (k.mono h.size)

set_option maxRecDepth 100000 in
set_option maxHeartbeats 8000000 in
theorem walk (v : Value) (l : List (Int × Int)) (hnum : Nums l) (u : Value) (bs : List Int) (hb : ∀ x ∈ bs, 0 ≤ x ∧ x < 256) (n0 n1 n2 : Int) (w : World) (h : Row w.heap.size w v l) (hbs : RowB w.heap.size w u 1 (bs.map byV)) :
    Calls Try.prog 4 #[v, u, .agg #[.int .i64 n0, .int .i64 n1, .int .i64 n2]] w fun e w' => e = .returned (.bool true) ∧ Below w.heap.size w w' := by
  have h' := Lib.hid h
  have hbs' := Lib.hid hbs
  have hb' := Lib.hid hb
  have hnum' := Lib.hid hnum
  obtain ⟨x, N, cap, rfl, hN', h0', hc1, hc2⟩ := h.opened
  obtain ⟨ub, NB, capB, rfl, hNB, hcb1, hcb2⟩ := bytes_open hbs
  obtain ⟨M, hM1, hM2, hM3⟩ : ∃ M : Nat, min (N : Int) 30 = (M : Int) ∧ M ≤ N ∧ M ≤ 30 := ⟨min N 30, by omega, by omega, by omega⟩
  have hcut := Lib.hid (h.cutTo hN'.out hM2)
  have hMt := Lib.hid (show (l.take M).length = M by rw [List.length_take, hN'.out]; omega)
  have hMn := Lib.hid (show Nums (l.take M) from fun s hs => hnum s (List.mem_of_mem_take hs))
  have hMc : M ≤ cap := by omega
  have hA0 := At.new w 37 #[.int .i64 n0, .int .i64 n1, .int .i64 n2]
  have hB0 : Below w.heap.size w (w.alloc (.cells #[.int .i64 n0, .int .i64 n1, .int .i64 n2] 37)) := bAlloc (Below.refl _ _) _
  clear h hb hbs hnum
  go_enter Try.func4, Try.ntmps4
  go_upto_region 1 with fail
  generalize (w.alloc (.cells #[.int .i64 n0, .int .i64 n1, .int .i64 n2] 37)) = w1 at *
  have hrow1 := Lib.hid ((h'.out.keep hB0 (Nat.le_refl _)).more hB0.size)
  have hbs1 := Lib.hid ((hbs'.out.keep hB0 (Nat.le_refl _)).more hB0.size)
  refine Sched.wp_region_schedA 11 (fun W W' => Below W.heap.size W W') (VP (.slice x N cap) (.slice ub NB capB) x N M cap NB) (fun _ _ _ => True) rfl (by kernel_rfl) (by kernel_rfl) (by kernel_rfl) (by kernel_rfl) (fun h1 h2 => belowTr h1 h2) (fun h1 h2 => VP.keep h1 h2) (Below.refl _ _).drew (fun _ => trivial) (Sched.StepsA.steps (by kernel_rfl) ?hS1) ?hQ1
  case hS1 =>
    simp only [List.take_succ_cons, List.take_zero]
    refine ⟨?_, ?_, ?_, ?_, ?_, ?_, ?_, ?_, ?_, ?_, ?_, trivial⟩
    · intro ys done W aa hE hn hF hD hZ hG hO
      replace hE : Below w1.heap.size w1 W := hE
      have o1 := hO 0 (by kernel_rfl)
      replace o1 : aa.tmps[0]? = some (.slice x N cap) := o1
      go_wp2_with fail
      first | exact ⟨_, rfl, Below.refl _ _, rfl, trivial⟩ | exact ⟨_, rfl, Below.refl _ _, rfl⟩
    · intro ys done W aa hE hn hF hD hZ hG hO
      replace hE : Below w1.heap.size w1 W := hE
      have o1 := hO 0 (by kernel_rfl)
      replace o1 : aa.tmps[0]? = some (.slice x N cap) := o1
      go_wp2_with fail
      first | exact ⟨_, rfl, Below.refl _ _, rfl, trivial⟩ | exact ⟨_, rfl, Below.refl _ _, rfl⟩
    · intro ys done W aa hE hn hF hD hZ hG hO
      replace hE : Below w1.heap.size w1 W := hE
      have v1 := hF 1 (by decide) (hD 1 (by kernel_rfl))
      replace v1 : ys 1 = .slice x N cap := v1
      have g1 := hG 1 20 rfl (Nat.le_of_ble_eq_true rfl)
      rw [v1] at g1
      go_wp2_with fail
      first | exact ⟨_, rfl, Below.refl _ _, rfl, trivial⟩ | exact ⟨_, rfl, Below.refl _ _, rfl⟩
    · intro ys done W aa hE hn hF hD hZ hG hO
      replace hE : Below w1.heap.size w1 W := hE
      have v2 := hF 2 (by decide) (hD 2 (by kernel_rfl))
      replace v2 : ys 2 = .int .i64 N := v2
      have g2 := hG 2 21 rfl (Nat.le_of_ble_eq_true rfl)
      rw [v2] at g2
      go_wp2_with fail
      first | exact ⟨_, rfl, Below.refl _ _, rfl, trivial⟩ | exact ⟨_, rfl, Below.refl _ _, rfl⟩
    · intro ys done W aa hE hn hF hD hZ hG hO
      replace hE : Below w1.heap.size w1 W := hE
      have v0 := hF 0 (by decide) (hD 0 (by kernel_rfl))
      replace v0 : ys 0 = .slice x N cap := v0
      have g0 := hG 0 19 rfl (Nat.le_of_ble_eq_true rfl)
      rw [v0] at g0
      have v3 := hF 3 (by decide) (hD 3 (by kernel_rfl))
      replace v3 : ys 3 = .int .i64 M := v3
      have g3 := hG 3 22 rfl (Nat.le_of_ble_eq_true rfl)
      rw [v3] at g3
      go_wp2_with fail
      first | exact ⟨_, rfl, Below.refl _ _, rfl, trivial⟩ | exact ⟨_, rfl, Below.refl _ _, rfl⟩
    · intro ys done W aa hE hn hF hD hZ hG hO
      replace hE : Below w1.heap.size w1 W := hE
      have o1 := hO 0 (by kernel_rfl)
      replace o1 : aa.tmps[0]? = some (.slice x N cap) := o1
      go_wp2_with fail
      first | exact ⟨_, rfl, Below.refl _ _, rfl, trivial⟩ | exact ⟨_, rfl, Below.refl _ _, rfl⟩
    · intro ys done W aa hE hn hF hD hZ hG hO
      replace hE : Below w1.heap.size w1 W := hE
      have v5 := hF 5 (by decide) (hD 5 (by kernel_rfl))
      replace v5 : ys 5 = .slice x N cap := v5
      have g5 := hG 5 24 rfl (Nat.le_of_ble_eq_true rfl)
      rw [v5] at g5
      go_wp2_with fail
      refine Calls.mono (near_any _ l hnum'.out _ (hrow1.out.on hE)) ?_
      rintro e w5 ⟨⟨v5', rfl, hv5⟩, hb5⟩
      go_wp2_with fail
      have hv5' := hv5
      obtain ⟨l5, hR5, _⟩ := hv5'
      obtain ⟨x5, n5, c5, e5, _⟩ := hR5.opened
      first | exact ⟨_, rfl, hb5, ⟨x5, n5, c5, e5, hv5⟩, trivial⟩ | exact ⟨_, rfl, hb5, ⟨x5, n5, c5, e5, hv5⟩⟩
    · intro ys done W aa hE hn hF hD hZ hG hO
      replace hE : Below w1.heap.size w1 W := hE
      have o1 := hO 1 (by kernel_rfl)
      replace o1 : aa.tmps[1]? = some (.slice ub NB capB) := o1
      go_wp2_with fail
      first | exact ⟨_, rfl, Below.refl _ _, rfl, trivial⟩ | exact ⟨_, rfl, Below.refl _ _, rfl⟩
    · intro ys done W aa hE hn hF hD hZ hG hO
      replace hE : Below w1.heap.size w1 W := hE
      have v7 := hF 7 (by decide) (hD 7 (by kernel_rfl))
      replace v7 : ys 7 = .slice ub NB capB := v7
      have g7 := hG 7 26 rfl (Nat.le_of_ble_eq_true rfl)
      rw [v7] at g7
      go_wp2_with fail
      refine Calls.mono (Made_any _ bs hb'.out _ (RowB.on hbs1.out hE)) ?_
      rintro e w5 ⟨⟨v5', rfl, hv5⟩, hb5⟩
      rw [hNB.out] at hv5
      go_wp2_with fail
      have hv5' := hv5
      obtain ⟨l5, k5, hR5, _⟩ := hv5'
      obtain ⟨x5, n5, c5, e5, _⟩ := hR5.opened
      first | exact ⟨_, rfl, hb5, ⟨x5, n5, c5, e5, hv5⟩, trivial⟩ | exact ⟨_, rfl, hb5, ⟨x5, n5, c5, e5, hv5⟩⟩
    · intro ys done W aa hE hn hF hD hZ hG hO
      replace hE : Below w1.heap.size w1 W := hE
      have v4 := hF 4 (by decide) (hD 4 (by kernel_rfl))
      replace v4 : ys 4 = .slice x M cap := v4
      have g4 := hG 4 23 rfl (Nat.le_of_ble_eq_true rfl)
      rw [v4] at g4
      have i6 : IsSome' (ys 6) W := hF 6 (by decide) (hD 6 (by kernel_rfl))
      have i8 : IsMade NB (ys 8) W := hF 8 (by decide) (hD 8 (by kernel_rfl))
      have i6' := i6
      have i8' := i8
      obtain ⟨x6, n6, c6, e6, _⟩ := i6'
      obtain ⟨x8, n8, c8, e8, _⟩ := i8'
      have g6 := hG 6 25 rfl (Nat.le_of_ble_eq_true rfl)
      have g8 := hG 8 27 rfl (Nat.le_of_ble_eq_true rfl)
      rw [e6] at g6
      rw [e8] at g8
      rw [e6] at i6
      rw [e8] at i8
      go_wp2_with fail
      first | exact ⟨_, rfl, Below.refl _ _, ⟨_, _, rfl, i6, i8⟩, trivial⟩ | exact ⟨_, rfl, Below.refl _ _, ⟨_, _, rfl, i6, i8⟩⟩
    · intro ys done W aa hE hn hF hD hZ hG hO
      replace hE : Below w1.heap.size w1 W := hE
      go_wp2_with fail
      first | exact ⟨_, rfl, Below.refl _ _, rfl, trivial⟩ | exact ⟨_, rfl, Below.refl _ _, rfl⟩
  case hQ1 =>
    intro ys w6 hE hF _
    replace hE : Below w1.heap.size w1 w6 := hE
    obtain ⟨a5, a6, e9, i5, i6⟩ : ∃ a b, ys 9 = .agg #[.slice x M cap, a, b] ∧ IsSome' a w6 ∧ IsMade NB b w6 := hF 9 (by decide)
    have v10 : ys 10 = .int .i64 0 := hF 10 (by decide)
    simp only [List.take_succ_cons, List.take_zero, List.drop_succ_cons, List.drop_zero, Sched.fill, e9, v10]
    have hB6 := bStep hB0 hE
    have hA6 := hA0.keep hE hA0.inside
    have hR4 := Lib.hid ((hcut.out.keep hB6 (Nat.le_refl _)).more hB6.size)
    obtain ⟨x5, n5, c5, rfl, l5, hR5, hl5, hn5⟩ := i5
    obtain ⟨x6, n6, c6, rfl, l6, k6, hR6, hD6, hk6, hkb6⟩ := i6
    have hR5' := Lib.hid hR5
    have hR6' := Lib.hid hR6
    have hl6 := Lib.hid (show l6.length ≤ 30 by rw [hD6.2.1]; omega)
    have hl5' := Lib.hid hl5
    clear hF e9 v10 hE hA0 hB0 hR5 hR6 hD6 hl5 hn5
    go_simp
    have ia : ∀ k : Nat, k < 3 → ∃ (xk : Option Addr) (nk ck : Nat) (lk : List (Int × Int)), (∀ w, (Instr.index 38 (.agg #[.slice x M cap, .slice x5 n5 c5, .slice x6 n6 c6]) (.int .i64 (k : Int))).run Try.prog w = .ok (.slice xk nk ck) w) ∧ Hid (Row w6.heap.size w6 (.slice xk nk ck) lk ∧ lk.length ≤ 30) := by
      intro k hk
      match k, hk with
      | 0, _ => exact ⟨x, M, cap, l.take M, fun _ => by kernel_rfl, Lib.hid ⟨hR4.out, by rw [hMt.out]; omega⟩⟩
      | 1, _ => exact ⟨x5, n5, c5, l5, fun _ => by kernel_rfl, Lib.hid ⟨hR5'.out, hl5'.out⟩⟩
      | 2, _ => exact ⟨x6, n6, c6, l6, fun _ => by kernel_rfl, Lib.hid ⟨hR6'.out, hl6.out⟩⟩
    have ia' := Lib.hid ia
    clear ia hR4 hR5' hR6' hl6 hl5'
    go_wp2_with fail
    go_loopw [29] (fun i wr => ∃ k : Nat, k ≤ 3 ∧ i = .int .i64 k ∧ Below w6.heap.size w6 wr) (fun i _ => 3 - (intOf i).toNat)
    case atStart => exact ⟨0, by omega, rfl, Below.refl _ _⟩
    case round =>
      obtain ⟨k, hk, rfl, hbw⟩ := hrel
      by_cases hlt : k < 3
      · obtain ⟨xk, nk, ck, lk, hix, hRk⟩ := ia'.out k hlt
        have t3 : decide ((k : Int) < 3) = true := by rw [decide_eq_true_eq]; omega
        have hAk := hA6.keep hbw hA6.inside
        have c0 := hAk.cell 0
        have c1 := hAk.cell 1
        have c2 := hAk.cell 2
        simp at c0 c1 c2
        go_wp2_with fail
        generalize n0.tmod 9 = E1
        generalize n1.tmod 9 = E2
        generalize n2.tmod 9 = E3
        generalize wrap64 ((IntKind.u64.wrap n0).tmod 9) = F1
        generalize wrap64 ((IntKind.u64.wrap n1).tmod 9) = F2
        generalize wrap64 ((IntKind.u64.wrap n2).tmod 16) = F3
        have ib : ∀ m : Nat, m < 3 → ∃ a b c : Int, ∀ w, (Instr.index 40 (.agg #[.int .i64 n0, .int .i64 n1, .int .i64 n2, .int .i64 E1, .int .i64 E2, .int .i64 E3, .int .i64 F1, .int .i64 F2, .int .i64 F3]) (.int .i64 (m : Int))).run Try.prog w = .ok (.agg #[.int .i64 a, .int .i64 b, .int .i64 c]) w := by
          intro m hm
          match m, hm with
          | 0, _ => exact ⟨n0, n1, n2, fun _ => by kernel_rfl⟩
          | 1, _ => exact ⟨E1, E2, E3, fun _ => by kernel_rfl⟩
          | 2, _ => exact ⟨F1, F2, F3, fun _ => by kernel_rfl⟩
        have ib' := Lib.hid ib
        have hlt' := Lib.hid hlt
        have hk3 : (k : Int) < 3 := by omega
        clear ib c0 c1 c2 hAk hix t3 hlt
        generalize hwr : wr = wI at *
        clear hwr wr
        go_loopw [60] (fun i wr => ∃ m : Nat, m ≤ 3 ∧ i = .int .i64 m ∧ Below w6.heap.size w6 wr) (fun i _ => 3 - (intOf i).toNat)
        case atStart => exact ⟨0, by omega, rfl, hbw⟩
        case round =>
          clear hbw
          obtain ⟨m, hm, rfl, hbw⟩ := hrel
          by_cases hlt2 : m < 3
          · obtain ⟨a, b, c, hix⟩ := ib'.out m hlt2
            have t3 : decide ((m : Int) < 3) = true := by rw [decide_eq_true_eq]; omega
            have hR0 := Lib.hid (hRk.out.1.on (bStep hbw (bAlloc (Below.refl _ _) (.cells #[.int .i64 a, .int .i64 b, .int .i64 c] 37))))
            have hA1 := At.new wr 37 #[.int .i64 a, .int .i64 b, .int .i64 c]
            have hB1 : Below w6.heap.size w6 (wr.alloc (.cells #[.int .i64 a, .int .i64 b, .int .i64 c] 37)) := bAlloc hbw _
            obtain ⟨Lk, hLk⟩ : ∃ Lk, lk = Lk := ⟨_, rfl⟩
            have hkl := Lib.hid (show lk.length ≤ 1000000 by have := hRk.out.2; omega)
            have hkl2 := Lib.hid hRk.out.2
            clear hLk
            go_wp2_with fail
            generalize (wr.alloc (.cells #[.int .i64 a, .int .i64 b, .int .i64 c] 37)) = wA at *
            generalize wr.heap.size = q at *
            clear hix t3 hbw
            have a0 := hA1.cell 0
            have a1 := hA1.cell 1
            have a2 := hA1.cell 2
            simp at a0 a1 a2
            refine Calls.mono (With_any _ lk a b c hkl.out _ hR0.out) ?_
            rintro e w7 ⟨⟨v7, rfl, hv7, _⟩, hb7⟩
            have p7 := Lib.hid hv7
            obtain ⟨y7, n7, c7, rfl, hn7, _, h71, h72⟩ := hv7.opened
            clear hv7
            have hB7 := bStep hB1 hb7
            have hR7 := Lib.hid (hR0.out.on hb7)
            have hA7 := hA1.keep hb7 hA1.inside
            clear hb7 hB1 hR0 hA1 a0 a1 a2
            have a0 := hA7.cell 0
            have a1 := hA7.cell 1
            have a2 := hA7.cell 2
            simp at a0 a1 a2
            go_wp2_with fail
            refine Calls.mono (refWith_any _ lk a b c hkl.out _ hR7.out) ?_
            rintro e w8 ⟨⟨v8, rfl, hv8⟩, hb8⟩
            have r8 := Lib.hid hv8
            obtain ⟨y8, n8, c8, rfl, hn8, _, h81, h82⟩ := hv8.opened
            clear hv8
            have hB8 := bStep hB7 hb8
            have hR8 := Lib.hid (hR7.out.on hb8)
            have hA8 := hA7.keep hb8 hA7.inside
            have p8 := Lib.hid (p7.out.on hb8)
            clear hb8 hB7 hR7 hA7 a0 a1 a2 p7
            have a0 := hA8.cell 0
            have a1 := hA8.cell 1
            have a2 := hA8.cell 2
            simp at a0 a1 a2
            go_wp2_with fail
            refine Calls.mono (At_any _ lk a hkl.out _ hR8.out) ?_
            rintro e w9 ⟨rfl, hb9⟩
            have hB9 := bStep hB8 hb9
            have hR9 := Lib.hid (hR8.out.on hb9)
            have hA9 := hA8.keep hb9 hA8.inside
            have p9 := Lib.hid (p8.out.on hb9)
            have r9 := Lib.hid (r8.out.on hb9)
            clear hb9 hB8 hR8 hA8 a0 a1 a2 p8 r8
            have a0 := hA9.cell 0
            have a1 := hA9.cell 1
            have a2 := hA9.cell 2
            simp at a0 a1 a2
            go_wp2_with fail
            refine Calls.mono (refAt_any _ lk a hkl.out _ hR9.out) ?_
            rintro e w10 ⟨rfl, hb10⟩
            have hB10 := bStep hB9 hb10
            have hR10 := Lib.hid (hR9.out.on hb10)
            have hA10 := hA9.keep hb10 hA9.inside
            have p10 := Lib.hid (p9.out.on hb10)
            have r10 := Lib.hid (r9.out.on hb10)
            clear hb10 hB9 hR9 hA9 a0 a1 a2 p9 r9
            have a0 := hA10.cell 0
            have a1 := hA10.cell 1
            have a2 := hA10.cell 2
            simp at a0 a1 a2
            generalize hWv : withV lk a b c = WV at *
            have hwl := Lib.hid (show WV.length ≤ 140737488351232 by
              rw [← hWv]
              unfold withV
              split
              · rename_i hh
                obtain ⟨h1, h2, h3, _⟩ := mayW_iff.1 hh
                rw [withL_length (by omega) (by omega)]
                have := hkl2.out
                omega
              · simp)
            have hol := Lib.hid (show (woL a lk).length ≤ 140737488351232 by have := wo_length a lk; have := hkl2.out; omega)
            generalize mayW lk a b c = BB at *
            generalize ixV (a, 0) lk = P0 at *
            generalize ixV (a, 1) lk = P1 at *
            clear hWv a1 a2
            have hbb : (BB != BB) = false := by simp
            go_upto_region 11 with fail
            have hqi := hA10.inside
            go_region_held3 (fun w' => w'.cell? ⟨q, 0, none⟩ = some (.int .i64 a) ∧ Below w10.heap.size w10 w')
              (first | with_reducible exact keepD (by assumption) | with_reducible exact keepB hb21 (by assumption) | with_reducible exact keepB hb22 (by assumption) | with_reducible exact keepB hb23 (by assumption) | with_reducible exact keepB hb24 (by assumption) | exact ⟨a0, (Below.refl _ _).drew⟩ | exact ⟨a0, Below.refl _ _⟩)
              (first | (go_at_call 21; refine Calls.mono (Without_any _ lk a hkl.out _ (hR10.out.on (And.right (by assumption)))) ?_; rintro e w22 ⟨⟨v22, rfl, hv22⟩, hb22⟩; obtain ⟨y22, n22, c22, rfl, hn22, _, h221, h222⟩ := hv22.opened) | (go_at_call 22; refine Calls.mono (refWithout_any _ lk a hkl.out _ (hR10.out.on (And.right (by assumption)))) ?_; rintro e w23 ⟨⟨v23, rfl, hv23⟩, hb23⟩; obtain ⟨y23, n23, c23, rfl, hn23, _, h231, h232⟩ := hv23.opened) | (go_at_call 20; refine Calls.mono (same_yes _ _ WV hwl.out _ (p10.out.on (And.right (by assumption))) (r10.out.on (And.right (by assumption)))) ?_; rintro e w21 ⟨rfl, hb21⟩) | (go_at_call 20; refine Calls.mono (same_yes _ _ (woL a lk) hol.out _ (hv22.on hb23) hv23) ?_; rintro e w24 ⟨rfl, hb24⟩))
            have hS24 : w24.cell? ⟨q, 0, none⟩ = some (.int .i64 a) ∧ Below w10.heap.size w10 w24 := by assumption
            have hB24 := bStep hB10 hS24.2
            clear hS24 hb21 hb22 hb23 hb24 hv22 hv23 hB10 hR10 hA10 a0 p10 r10
            go_wp2
            go_roundw
            case rel => exact ⟨m + 1, by omega, by go_num, hB24⟩
            case measure => simp [intOf]; omega
          · obtain rfl : m = 3 := by omega
            have hlt := hlt'.out
            go_wp2
            go_roundw
            case rel => exact ⟨k + 1, by omega, by go_num, hbw⟩
            case measure => simp [intOf]; omega
      · obtain rfl : k = 3 := by omega
        go_wp2_with fail
        refine Calls.mono (works_any _) ?_
        rintro e w7 ⟨rfl, hb7⟩
        have hB7 := bStep hB6 (bStep hbw hb7)
        go_wp2
        go_ret
        exact ⟨rfl, hB7⟩

set_option maxRecDepth 100000 in
theorem lifted (os : Os) (started : os.Started) (H : Type) (enc : TypeId × Value → H) :
    ReturnsInHanded {} Try.checked os 4 .any (Rows.routePutsSpec.pre6 enc Try.prog Try.f4 Rows.routePutsRow.domain false) (Rows.routePutsSpec.post enc Try.prog Try.f4 false true false false) := by
  refine returnsInHanded_of_change (C := Try.checked) own started (by kernel_rfl) Try.func4
    (ChangeSpec.witness6 (enc := enc) (C := Try.checked) false ⟨#[], #[.slice none 0 0, .slice none 0 0, .agg #[.int .i64 0, .int .i64 0, .int .i64 0]], []⟩ 8 (by kernel_rfl) (by kernel_rfl) (by kernel_rfl) (by kernel_rfl)) ?_
  intro W base args ds gs before hval0 hW hcnd _
  have hval : ∀ (j : Nat) t v, Try.f4.params[j]? = some t → args[j]? = some v → Value.okWide Try.prog W .any base t v := hval0
  have hW' := hW
  obtain ⟨p, q, hA0, hV, rfl, hfz, hnd⟩ := hW
  have hA : DataW.TrodAll enc Try.prog W 0 (fun _ => true) true Try.f4.params.toList args.toList ds p := hA0
  rw [Try.params4] at hA hval
  obtain ⟨v0, vs0, d0, ds0, p0, q0, hargs, rfl, rfl, h0, r0⟩ := trodAll_cons hA
  obtain ⟨v1, vs1, d1, ds1, p1, q1, rfl, rfl, rfl, h1, r1⟩ := trodAll_cons r0
  obtain ⟨v2, vs2, d2, ds2, p2, q2, rfl, rfl, rfl, h2, r2⟩ := trodAll_cons r1
  obtain ⟨rfl, rfl, rfl⟩ := trodAll_nil r2
  obtain rfl : args = #[v0, v1, v2] := by cases args; simp_all
  obtain ⟨rfl, rfl⟩ := trodVars_none hV
  obtain ⟨l, hrow, hnum⟩ := openStops (hval 0 22 v0 rfl rfl) h0
  obtain ⟨bs, hby, hbs⟩ := openBytes (hval 1 23 v1 rfl rfl) h1
  obtain ⟨xs, hl, hv, hxs⟩ := Close.open_numbers Try.underlying37 Try.underlying3 (by kernel_rfl) (by kernel_rfl) (hval 2 37 v2 rfl rfl) h2
  obtain ⟨m0, m1, m2, rfl⟩ : ∃ a b c, xs = [a, b, c] := by
    match xs, hl with
    | [a, b, c], _ => exact ⟨a, b, c, rfl⟩
  obtain rfl : v2 = .agg #[.int .i64 m0, .int .i64 m1, .int .i64 m2] := by simpa using hv
  exact (walk v0 l hnum v1 bs hbs m0 m1 m2 W hrow hby).mono fun e W' ⟨he, hb⟩ => ⟨_, he, Close.law_post laidOut (by kernel_rfl) rfl (by kernel_rfl) Try.underlying4 hW' rfl hb⟩

theorem over : Rows.routePutsRow.holds Try.pinned (OpenSpec.ofChange Rows.routePutsSpec) :=
  OpenClaim.holds_of_wide 4 Try.f4 rfl rfl rfl rfl rfl rfl rfl ⟨rfl, rfl, rfl, rfl, rfl⟩ rfl rfl rfl rfl rfl (by kernel_rfl) Try.func4 (by kernel_rfl)
    (of_decide_eq_true (by kernel_rfl)) (by unfold Func.isWrapper; first | (rw [if_pos (by decide +kernel)]; kernel_rfl) | (rw [if_neg (by decide +kernel)]; exact ⟨rfl, rfl⟩))
    (fun os started H enc _ => lifted os started H enc)

theorem proved : Rows.RoutePutsSaid := over
#print axioms proved

end Go.Proofs.Ytkeijbefamlckaa.routePuts

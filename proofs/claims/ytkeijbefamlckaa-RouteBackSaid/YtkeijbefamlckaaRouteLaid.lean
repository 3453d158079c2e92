/-
  The laws' own p, d, row and gives; rows that are laid by their stops.
-/
import Derived.Test.YtkeijbefamlckaaRouteWith
import Derived.Test.YtkeijbefamlckaaRouteChk
import Derived.Test.YtkeijbefamlckaaRouteAt
import Derived.Test.YtkeijbefamlckaaRouteSame
namespace Go.Proofs.Ytkeijbefamlckaa.Route
open Go.RowKit Go.Proofs.Ytkeijbefamlckaa.Mem
set_option linter.unusedVariables false

theorem res_stop {fn : Func} {p : Tmp} (h : fn.results = #[.cell p 27]) {tmps : Array Value} {w : World} {g : Nat} {x y : Value} (hp : tmps.getD p undef = .pointer (some ⟨g, 0, none⟩))
    (hA : At w g 27 #[x, y]) : (results fn tmps).run Try.prog w = .ok (.agg #[x, y]) w := by
  have hp' : tmps[p]?.getD undef = .pointer (some ⟨g, 0, none⟩) := by simpa using hp
  have c0 := hA.cell 0
  have c1 := hA.cell 1
  simp at c0 c1
  simp only [results, h]
  go_simp
theorem p_any (a : Int) (w : World) :
    Calls Try.prog 23 #[.int .i64 a] w fun e w' => e = .returned (.agg #[.int .i64 a, .int .i64 0]) ∧ w' = w.alloc (.cells #[.int .i64 a, .int .i64 0] 27) := by
  go_enter Try.func23, Try.ntmps23
  go_wp2
  exact bodyPost_ret (res_stop rfl rfl (At.new _ _ _)) rfl ⟨rfl, rfl⟩
theorem d_any (a : Int) (w : World) :
    Calls Try.prog 24 #[.int .i64 a] w fun e w' => e = .returned (.agg #[.int .i64 a, .int .i64 1]) ∧ w' = w.alloc (.cells #[.int .i64 a, .int .i64 1] 27) := by
  go_enter Try.func24, Try.ntmps24
  go_wp2
  exact bodyPost_ret (res_stop rfl rfl (At.new _ _ _)) rfl ⟨rfl, rfl⟩
theorem row_any (x : Option Addr) (n c : Nat) (w : World) :
    Calls Try.prog 25 #[.slice x n c] w fun e w' => e = .returned (.slice x n c) ∧ w' = w := by
  go_enter Try.func25, Try.ntmps25
  go_wp2
  go_ret
  exact ⟨rfl, rfl⟩

/-- A row that has just been laid. -/
theorem Row.laid {W : World} {t : TypeId} {l : List (Int × Int)} {cs : Array Value} {n k : Nat} (hn : n = W.heap.size) (hcs : cs.toList = flatS l) (hk : l.length = k) (hm : k ≤ maxLen) :
    Row (W.alloc (.cells cs t)).heap.size (W.alloc (.cells cs t)) (.slice (some ⟨n, 0, none⟩) k k) l := by
  subst hn
  subst hk
  have h := RowB.of_at (B := (W.alloc (.cells cs t)).heap.size) (m := 2) (cap := l.length) (rows := l.map stV) (At.new W t cs) (by simp) (fun r hr => by obtain ⟨s, _, rfl⟩ := List.mem_map.1 hr; rfl)
    (fun i u hu => by
      have : cs.toList[i]? = some u := by rw [hcs]; exact hu
      simpa using this) (by simp) hm
  rw [List.length_map] at h
  exact h
theorem Ints.laid {W : World} {t : TypeId} {l : List Int} {cs : Array Value} {n k : Nat} (hn : n = W.heap.size) (hcs : cs.toList = flatI l) (hk : l.length = k) (hm : k ≤ maxLen) :
    Ints (W.alloc (.cells cs t)).heap.size (W.alloc (.cells cs t)) (.slice (some ⟨n, 0, none⟩) k k) l := by
  subst hn
  subst hk
  have h := RowB.of_at (B := (W.alloc (.cells cs t)).heap.size) (m := 1) (cap := l.length) (rows := l.map inV) (At.new W t cs) (by simp) (fun r hr => by obtain ⟨s, _, rfl⟩ := List.mem_map.1 hr; rfl)
    (fun i u hu => by
      have : cs.toList[i]? = some u := by rw [hcs]; exact hu
      simpa using this) (by simp) hm
  rw [List.length_map] at h
  exact h
theorem bAlloc {w W : World} (h : Below w.heap.size w W) (o : Obj) : Below w.heap.size w (W.alloc o) := h.alloc h.size o
theorem bStep {w W V : World} (h : Below w.heap.size w W) (k : Below W.heap.size W V) : Below w.heap.size w V := h.trans (k.mono h.size)
theorem nums_of {l : List (Int × Int)} (h : (l.all fun s => decide (-1000000 ≤ s.1) && decide (s.1 ≤ 1000000) && decide (-1000000 ≤ s.2) && decide (s.2 ≤ 1000000)) = true) : Nums l := by
  intro s hs
  have := List.all_eq_true.1 h s hs
  simp only [Bool.and_eq_true, decide_eq_true_eq] at this
  exact ⟨⟨by omega, by omega⟩, by omega, by omega⟩

set_option maxHeartbeats 1000000 in
/-- With gives just that. -/
theorem gives_yes (v vw : Value) (l want : List (Int × Int)) (r i j : Int) (hl : l.length ≤ 1000000) (hm : mayW l r i j = decide (0 < want.length)) (hw : withV l r i j = want) (w : World) (h : Row w.heap.size w v l) (hwr : Row w.heap.size w vw want) :
    Calls Try.prog 26 #[v, .int .i64 r, .int .i64 i, .int .i64 j, vw] w fun e w' => e = .returned (.bool true) ∧ Below w.heap.size w w' := by
  have hW := With_any v l r i j hl w h
  rw [hm, hw] at hW
  have hwl : want.length ≤ 140737488351232 := by
    rw [← hw]
    unfold withV
    split
    · rename_i hh
      obtain ⟨h1, h2, h3, _⟩ := mayW_iff.1 hh
      rw [withL_length (by omega) (by omega)]
      omega
    · simp
  have hS := fun (v1 : Value) (w1 : World) (hb : Below w.heap.size w w1) (hv : Row w1.heap.size w1 v1 want) => Same_any v1 vw want want hwl w1 hv ((hwr.keep hb (Nat.le_refl _)).more hb.size)
  rw [show decide (want = want) = true by simp] at hS
  obtain ⟨x, N, cap, rfl, hN', h0', hc1, hc2⟩ := h.opened
  obtain ⟨y, M, cap2, rfl, hM', h02', hc3, hc4⟩ := hwr.opened
  rw [hM'.out] at hW
  have hS' := Lib.hid hS
  clear h hwr hm hw hS
  go_enter Try.func26, Try.ntmps26
  go_wp2_with fail
  refine hW.mono ?_
  rintro e w1 ⟨⟨v1, rfl, hv1, _⟩, hb1⟩
  have hS1 := hS'.out v1 w1 hb1 hv1
  obtain ⟨z, K, cap3, rfl, hK', h03', hc5, hc6⟩ := hv1.opened
  clear hv1 hW
  by_cases hM0 : 0 < M
  · have t1 : decide (0 < M) = true := by simpa using hM0
    have t2 : decide ((0 : Int) < (M : Int)) = true := by simp; omega
    go_wp2_with fail
    refine hS1.mono ?_
    rintro e w2 ⟨rfl, hb2⟩
    go_wp2
    go_ret
    exact ⟨rfl, hb1.trans (hb2.mono hb1.size)⟩
  · have t1 : decide (0 < M) = false := by simpa using hM0
    have t2 : decide ((0 : Int) < (M : Int)) = false := by simp; omega
    go_wp2_with fail
    refine hS1.mono ?_
    rintro e w2 ⟨rfl, hb2⟩
    go_wp2
    go_ret
    exact ⟨rfl, hb1.trans (hb2.mono hb1.size)⟩

end Go.Proofs.Ytkeijbefamlckaa.Route

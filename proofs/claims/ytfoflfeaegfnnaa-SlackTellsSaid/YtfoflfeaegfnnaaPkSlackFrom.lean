import Derived.Test.YtfoflfeaegfnnaaPkSlackMath2
import Derived.Test.YtfoflfeaegfnnaaPkWhenGo

/-
  Package slack's iterator over the stops, the last one first.
-/
namespace Go.Proofs.Ytfoflfeaegfnnaa.Slack
open Go.RowKit Go.Shelf Go.Proofs.Ytfoflfeaegfnnaa.Mem Go.Proofs.Ytfoflfeaegfnnaa.Route Go.Proofs.Ytfoflfeaegfnnaa.When Go.Proofs.Ytfoflfeaegfnnaa.Up
set_option linter.unusedVariables false

attribute [local go_sem] Oper.semAt_some

/-- A trip by value. -/
def tripC (v : Vh) (vl vt : Value) : Array Value := #[.int .i64 v.hx, .int .i64 v.hy, .int .i64 v.cp, .int .i64 v.st, .int .i64 v.en, vl, vt]
def whereF (v : Vh) (vl vt : Value) : Value := .func (.func 39) #[.agg #[.int .i64 v.hx, .int .i64 v.hy, .int .i64 v.cp, .int .i64 v.st, .int .i64 v.en, vl, vt]] #[]
def encK (y : Nat × Vi) : Array Value := #[.int .i64 y.1, .agg #[.int .i64 y.2.px, .int .i64 y.2.py, .int .i64 y.2.we, .int .i64 y.2.wl, .int .i64 y.2.sv]]

theorem upTo_true {α : Type} (xs : List α) : upTo (fun _ => true) xs = xs := upTo_all (fun _ _ => rfl)
theorem from_any (N : Nat) (v : Vh) (vl vt : Value) (w : World) :
    Calls Try.prog 38 #[.int .i64 N, whereF v vl vt] w fun e w' =>
      e = .returned (.func (.func 58) #[] #[.pointer (some ⟨w.heap.size, 0, none⟩), .pointer (some ⟨w.heap.size + 1, 0, none⟩)]) ∧
      (w.alloc (.cells #[.int .i64 N] 3)).alloc (.cells #[whereF v vl vt] 99) = w' := by
  unfold whereF
  go_enter Try.func38, Try.ntmps38
  go_wp2
  go_ret
  exact ⟨rfl, rfl⟩

/-- What the iterator's closure holds. -/
structure FromAt (B0 : Nat) (bn bw : Nat) (vl vt : Value) (v : Vh) (l : List (Int × Int)) (t : List Rq) (A : World) : Prop where
  hn : At A bn 3 #[.int .i64 l.length]
  hw : At A bw 99 #[whereF v vl vt]
  row : Row B0 A vl l
  rqs : Rqs B0 A vt t

set_option maxRecDepth 100000 in
set_option maxHeartbeats 4000000 in
theorem from_runs (v : Vh) (l : List (Int × Int)) (t : List Rq) (hl : l.length ≤ 1000000) (hin : AllIn t l) (vl vt : Value) (bn bw B0 B : Nat) (hB : B0 ≤ B) (xs : List (Nat × Vi)) (hlen : xs.length = l.length)
    (hxs : ∀ pre rest y, xs = pre ++ y :: rest → y.1 + 1 + pre.length = l.length ∧ y.2 = visN v t l y.1) (I : List (Nat × Vi) → World → Prop) (hI : ∀ p A, I p A → FromAt B0 bn bw vl vt v l t A) :
    Runs2 Try.prog 58 #[] #[.pointer (some ⟨bn, 0, none⟩), .pointer (some ⟨bw, 0, none⟩)] encK (fun _ => true) xs B I := by
  intro ll J W hWB h0 hJ hJI hY
  refine callsIn_of_wp Try.func58 rfl trivial ?_ rfl
  simp only [Try.ntmps58, List.size_toArray, List.length_cons, List.length_nil, Nat.reduceAdd, Nat.reduceSub, Array.replicate_succ, Array.replicate_zero, List.push_toArray, List.append_toArray, List.nil_append, List.cons_append]
  have hV0 := hI _ _ (hJI _ _ h0)
  obtain ⟨N, hN⟩ : ∃ N, l.length = N := ⟨_, rfl⟩
  have l0 := hV0.hn.cell 0
  have hbn := hV0.hn.inside
  simp [hN] at l0
  have hN1 : N ≤ 1000000 := by rw [← hN]; exact hl
  have hWs : B ≤ W.heap.size := by omega
  have hN' := Lib.hid hN
  have hxs' := Lib.hid hxs
  have hlen' : Hid (xs.length = N) := Lib.hid (hlen.trans hN)
  have hY' := Lib.hid hY
  have hI' := Lib.hid hI
  clear hY hI hV0 hxs hlen hN hl
  gi_wp2
  gi_loopw [4] (fun i wr => ∃ (pre : List (Nat × Vi)) (k : Nat) (rest : List (Nat × Vi)), i = .int .i64 ((N : Int) - 1 - k) ∧ k ≤ N ∧ pre.length = k ∧ xs = pre ++ rest ∧ J pre wr ∧ B ≤ wr.heap.size)
    (fun i _ => (intOf i + 1).toNat)
  case atStart => exact ⟨[], 0, xs, by go_num, Nat.zero_le _, rfl, rfl, h0, hWs⟩
  case round =>
    obtain ⟨pre, k, rest, rfl, hk, hpk, hx, hj, hs⟩ := hrel
    clear h0
    have hpk' := Lib.hid hpk
    have hx' := Lib.hid hx
    by_cases hkN : k < N
    · obtain ⟨y, rest, rfl⟩ : ∃ y r, rest = y :: r := by
        cases rest with
        | nil =>
          exfalso
          have h1 := hlen'.out
          rw [hx] at h1
          simp at h1
          omega
        | cons y r => exact ⟨y, r, rfl⟩
      obtain ⟨hy1, hy2⟩ := hxs'.out pre rest y hx
      rw [hpk, hN'.out] at hy1
      have hVk := hI'.out _ _ (hJI _ _ hj)
      have w0 := hVk.hw.cell 0
      have hbw := hVk.hw.inside
      simp [whereF] at w0
      have hvi := visit_any v vl vt l t y.1 (by rw [hN'.out]; omega) wr (hVk.row.more (by omega)) (hVk.rqs.more (by omega)) hin
      rw [← hy2] at hvi
      have hyI : (N : Int) - 1 - k = (y.1 : Int) := by omega
      have hge : (0 : Int) ≤ (y.1 : Int) := by omega
      have hy1' := Lib.hid hy1
      clear hpk hx hVk hy2 hy1
      rw [hyI]
      gi_wp2_with fail
      refine ⟨trivial, ?_⟩
      refine (callsIn_wide.2 hvi).mono ?_
      clear hvi
      rintro e w3 ⟨rfl, hb3⟩
      have hj3 := Old.below hJ hj hb3
      have hs3 : B ≤ w3.heap.size := Nat.le_trans hs hb3.size
      obtain ⟨fn, tmps, assign, body, hyy, hR⟩ := hY'.out 1 pre y w3 ⟨rest, hx'.out⟩ hj3 (by simp) hs3
      dsimp only [encK] at hyy
      clear hb3 hj w0
      gi_wp2_with fail
      refine hR.mono ?_
      clear hR hyy
      rintro e w4 ⟨rfl, hj4, hk4⟩
      have hs4 : B ≤ w4.heap.size := Nat.le_trans hs3 hk4
      clear hk4
      gi_wp2
      go_roundw
      case rel =>
        have h9 := hy1'.out
        exact ⟨pre ++ [y], k + 1, rest, by go_num, by omega, by simp [hpk'.out], by rw [hx'.out]; simp, hj4, hs4⟩
      case measure => simp [intOf] <;> omega
    · obtain rfl : k = N := by omega
      have hr0 : rest = [] := by
        have h1 := hlen'.out
        rw [hx'.out] at h1
        simp at h1
        exact List.eq_nil_of_length_eq_zero (by have := hpk'.out; omega)
      subst hr0
      have hneg : (k : Int) - 1 - k = -1 := by omega
      rw [hneg]
      clear hpk hx
      gi_wp2
      go_end0
      refine ⟨⟨_, rfl⟩, ?_⟩
      rw [upTo_true, hx'.out, List.append_nil]
      exact hj

end Go.Proofs.Ytfoflfeaegfnnaa.Slack

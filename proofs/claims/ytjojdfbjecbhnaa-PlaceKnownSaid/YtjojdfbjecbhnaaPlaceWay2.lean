/-
  The contract of the iterator that goes along a way.
-/
import Derived.Test.YtjojdfbjecbhnaaPlaceWay
namespace Go.Proofs.Ytjojdfbjecbhnaa.Place
open Go.RowKit Go.Shelf Go.Proofs.Ytjojdfbjecbhnaa.Seq Go.Proofs.Ytjojdfbjecbhnaa.Mem
set_option linter.unusedVariables false

attribute [local go_sem] Oper.semAt_some

set_option maxRecDepth 100000 in
set_option maxHeartbeats 4000000 in
theorem way_gives (a b : Int × Int) (hma : mayB a = true) (hmb : mayB b = true) (Ba Bb B : Nat) (hBa : Ba < B) (hBb : Bb < B) (I : List (Int × Int) → World → Prop)
    (hIa : ∀ s W, I s W → At W Ba 23 #[.int .i64 a.1, .int .i64 a.2]) (hIb : ∀ s W, I s W → At W Bb 23 #[.int .i64 b.1, .int .i64 b.2]) :
    Gives Try.prog 25 #[.pointer (some ⟨Ba, 0, none⟩), .pointer (some ⟨Bb, 0, none⟩)] encP (upto a b (wayN a b)) B I := by
  intro l J W hWB h0 hJ hJI hY
  have hN : (upto a b (wayN a b)).length = wayN a b := upto_length a b _
  rw [hN] at hY
  refine callsIn_of_wp Try.func25 rfl trivial ?_ rfl
  simp only [Try.ntmps25, List.size_toArray, List.length_cons, List.length_nil, Nat.reduceAdd, Nat.reduceSub, Array.replicate_succ, Array.replicate_zero, List.push_toArray, List.append_toArray, List.nil_append, List.cons_append]
  have hA := hIa _ _ (hJI _ _ h0)
  have hB := hIb _ _ (hJI _ _ h0)
  have a0 := hA.cell 0
  have a1 := hA.cell 1
  have b0 := hB.cell 0
  have b1 := hB.cell 1
  simp at a0 a1 b0 b1
  have lA := hA.inside
  have lB := hB.inside
  obtain ⟨W1, hW1⟩ : ∃ W1, ((W.alloc (.cells #[.func (.yield l) #[] #[]] 27)).alloc (.cells #[.int .i64 a.1, .int .i64 a.2] 23)).alloc (.cells #[.int .i64 b.1, .int .i64 a.2] 23) = W1 := ⟨_, rfl⟩
  have y1 : At W1 B 27 #[.func (.yield l) #[] #[]] := by
    rw [← hW1]
    exact ((At.new_ W _ _ hWB.symm).alloc _).alloc _
  have p1 : At W1 (B + 1) 23 #[.int .i64 a.1, .int .i64 a.2] := by
    rw [← hW1]
    exact (At.new_ _ _ _ (by simp [hWB])).alloc _
  have j1 : J [] W1 := by
    rw [← hW1]
    exact hJ.new (hJ.new (hJ.new h0 _) _) _
  have s1 : W1.heap.size = B + 3 := by rw [← hW1]; simp [hWB]
  have first := part_in 1 (by omega) l (B + 1) B B (wayN a b) J (pt a b) 0 (nx a b) (Nat.zero_le _) (by unfold wayN; omega) (fun i _ _ => pt_side a b i hma hmb) (fun i _ h => .inl (part1_ne a b h)) (fun i _ h => part1_step a b h) (fun i _ h => part1_gap a b h)
    (fun i _ _ => by have := gap_nonneg (pt a b i).1 (pt a b (nx a b)).1; have := gap_nonneg (pt a b i).2 (pt a b (nx a b)).2; omega) hJ hY (by omega) (Nat.le_refl _) (by omega) W1 (by rw [pt_0]; exact p1) y1 j1
  have second := fun W2 h1 h2 h3 => part_in 1 (by omega) l (B + 1) B B (wayN a b) J (pt a b) (nx a b) (nx a b + ny a b) (Nat.le_add_right _ _) (by unfold wayN; omega) (fun i _ _ => pt_side a b i hma hmb) (fun i h0 h => .inr (part2_ne a b h0 h)) (fun i h0 h => part2_step a b h0 h) (fun i h0 h => part2_gap a b h0 h)
    (fun i _ _ => by have := gap_nonneg (pt a b i).1 (pt a b (nx a b + ny a b)).1; have := gap_nonneg (pt a b i).2 (pt a b (nx a b + ny a b)).2; omega) hJ hY (by omega) (Nat.le_refl _) (by omega) W2 h1 h2 h3
  rw [pt_corner] at first
  rw [pt_end] at second
  have hlast : upto a b (nx a b + ny a b) ++ [b] = upto a b (wayN a b) := by
    unfold wayN
    rw [upto_succ, pt_end]
  have hlast' := Lib.hid hlast
  have second' := Lib.hid second
  have hN' := Lib.hid hN
  have hY' := Lib.hid hY
  have hW1' := Lib.hid hW1
  clear hlast second hN hY hW1
  gi_wp2_with fail
  rw [hW1'.out]
  refine ⟨trivial, first.mono ?_⟩
  clear first
  rintro e W2 ⟨rfl, j2, p2, k2⟩
  have y2 := At.keptBut y1 k2 (Nat.le_refl _) (by omega)
  have hB2 := hIb _ _ (hJI _ _ j2)
  have b20 := hB2.cell 0
  have b21 := hB2.cell 1
  simp at b20 b21
  have z2 := k2.size
  clear hW1'
  gi_wp2_with fail
  refine ⟨trivial, (second'.out W2 (by rw [pt_corner]; exact p2) y2 j2).mono ?_⟩
  rintro e W3 ⟨rfl, j3, p3, k3⟩
  have y3 := At.keptBut y2 k3 (Nat.le_refl _) (by omega)
  have hB3 := hIb _ _ (hJI _ _ j3)
  have b30 := hB3.cell 0
  have b31 := hB3.cell 1
  have y30 := y3.cell 0
  simp at b30 b31 y30
  have z3 := k3.size
  obtain ⟨fn, tmps, assign, body, hyy, hR⟩ := hY'.out 1 _ b W3 j3 (by simp [wayN]) (by omega)
  dsimp only [encP] at hyy
  gi_wp2
  refine hR.mono ?_
  rintro e W4 ⟨rfl, j4, k4⟩
  gi_wp2
  go_end0
  exact ⟨⟨_, rfl⟩, by rw [← hlast'.out]; exact j4⟩

end Go.Proofs.Ytjojdfbjecbhnaa.Place

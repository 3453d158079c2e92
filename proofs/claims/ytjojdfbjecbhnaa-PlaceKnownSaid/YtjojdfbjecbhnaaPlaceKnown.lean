/-
  consignlaw02.PlaceKnown returns true: the chapter's examples of place, corners, all that is near a place in the middle, numbers at their ends. No condition: it has no arguments.
-/
import Derived.Test.YtjojdfbjecbhnaaPlaceWorks
import Derived.Test.YtjojdfbjecbhnaaPlaceOpen
namespace Go.Proofs.Ytjojdfbjecbhnaa.placeKnown
open Go.ChangeShapes Go.WideShapes Go.ChangeAt Go.RowKit Go.Sort Go.Proofs.Ytjojdfbjecbhnaa.Place Go.Proofs.Ytjojdfbjecbhnaa.Mem
set_option linter.unusedVariables false

/-- The places that may not be. -/
def wild : List (Int × Int) := [(-1, 0), (0, -1), (1024, 0), (0, 1024), (9223372036854775807, 0), (0, -9223372036854775808)]
theorem wild_no : ∀ j, j < 6 → mayB (wild[j]?.getD (0, 0)) = false := by decide

theorem near_545 : (nearL (500, 500) 16).length = 545 := by decide +kernel
theorem near_first : (nearL (500, 500) 16)[0]?.getD (0, 0) = (484, 500) := by decide +kernel
theorem near_last : (nearL (500, 500) 16)[544]?.getD (0, 0) = (516, 500) := by decide +kernel
theorem way_top : (wayL (1023, 1023) (0, 0)).length = 2047 := by
  rw [wayL_yes (by decide) (by decide), upto_length]
  decide
theorem way_same : wayL (1023, 1023) (1023, 1023) = [(1023, 1023)] := by decide
theorem near_0 : nearL (1023, 1023) 0 = [(1023, 1023)] := by decide
theorem near_17 : nearL (1023, 1023) 17 = [] := by decide
theorem near_m1 : nearL (1023, 1023) (-1) = [] := by decide

/-- Cells of old blocks, and that nothing old has turned, behind a call. -/
theorem keepS {W W' w0 : World} {n m i : Nat} {x y z u : Value} (hb : Below W.heap.size W W')
    (h : W.cell? ⟨n, 0, none⟩ = some x ∧ W.cell? ⟨n, 1, none⟩ = some y ∧ W.cell? ⟨m, i * 2, none⟩ = some z ∧ W.cell? ⟨m, i * 2 + 1, none⟩ = some u ∧ Below w0.heap.size w0 W) :
    W'.cell? ⟨n, 0, none⟩ = some x ∧ W'.cell? ⟨n, 1, none⟩ = some y ∧ W'.cell? ⟨m, i * 2, none⟩ = some z ∧ W'.cell? ⟨m, i * 2 + 1, none⟩ = some u ∧ Below w0.heap.size w0 W' :=
  ⟨(hb.cell (p := ⟨n, 0, none⟩) (block_lt_of_cell h.1)).trans h.1, (hb.cell (p := ⟨n, 1, none⟩) (block_lt_of_cell h.2.1)).trans h.2.1, (hb.cell (p := ⟨m, i * 2, none⟩) (block_lt_of_cell h.2.2.1)).trans h.2.2.1,
    (hb.cell (p := ⟨m, i * 2 + 1, none⟩) (block_lt_of_cell h.2.2.2.1)).trans h.2.2.2.1, h.2.2.2.2.trans (hb.mono h.2.2.2.2.size)⟩

theorem topCells {W0 W : World} {n : Nat} {x y : Value} (h : At W0 n 23 #[x, y]) (hb : Below W0.heap.size W0 W) : W.cell? ⟨n, 0, none⟩ = some x ∧ W.cell? ⟨n, 1, none⟩ = some y := by
  have h2 := h.keep hb h.inside
  exact ⟨by simpa using h2.cell 0, by simpa using h2.cell 1⟩
theorem listCells {W0 W : World} {g : Nat} {x y z u : Value} (h0 : W0.cell? ⟨g, 0, none⟩ = some x) (h1 : W0.cell? ⟨g, 1, none⟩ = some y) (h2 : W0.cell? ⟨g, 1088, none⟩ = some z) (h3 : W0.cell? ⟨g, 1089, none⟩ = some u) (hb : Below W0.heap.size W0 W) :
    W.cell? ⟨g, 0, none⟩ = some x ∧ W.cell? ⟨g, 1, none⟩ = some y ∧ W.cell? ⟨g, 1088, none⟩ = some z ∧ W.cell? ⟨g, 1089, none⟩ = some u :=
  ⟨(hb.cell (p := ⟨g, 0, none⟩) (block_lt_of_cell h0)).trans h0, (hb.cell (p := ⟨g, 1, none⟩) (block_lt_of_cell h1)).trans h1, (hb.cell (p := ⟨g, 1088, none⟩) (block_lt_of_cell h2)).trans h2, (hb.cell (p := ⟨g, 1089, none⟩) (block_lt_of_cell h3)).trans h3⟩

theorem keepT {W W' w0 : World} {n g : Nat} {x y z u z' u' : Value} (hb : Below W.heap.size W W')
    (h : W.cell? ⟨n, 0, none⟩ = some x ∧ W.cell? ⟨n, 1, none⟩ = some y ∧ W.cell? ⟨g, 0, none⟩ = some z ∧ W.cell? ⟨g, 1, none⟩ = some u ∧ W.cell? ⟨g, 1088, none⟩ = some z' ∧ W.cell? ⟨g, 1089, none⟩ = some u' ∧ Below w0.heap.size w0 W) :
    W'.cell? ⟨n, 0, none⟩ = some x ∧ W'.cell? ⟨n, 1, none⟩ = some y ∧ W'.cell? ⟨g, 0, none⟩ = some z ∧ W'.cell? ⟨g, 1, none⟩ = some u ∧ W'.cell? ⟨g, 1088, none⟩ = some z' ∧ W'.cell? ⟨g, 1089, none⟩ = some u' ∧ Below w0.heap.size w0 W' := by
  obtain ⟨h1, h2, h3, h4, h5, h6, h7⟩ := h
  have k : ∀ {a v}, W.cell? a = some v → W'.cell? a = some v := fun {a v} h => (hb.cell (block_lt_of_cell h)).trans h
  exact ⟨k h1, k h2, k h3, k h4, k h5, k h6, h7.trans (hb.mono h7.size)⟩
theorem keepA {W w0 : World} {o : Obj} {n g : Nat} {x y z u z' u' : Value}
    (h : W.cell? ⟨n, 0, none⟩ = some x ∧ W.cell? ⟨n, 1, none⟩ = some y ∧ W.cell? ⟨g, 0, none⟩ = some z ∧ W.cell? ⟨g, 1, none⟩ = some u ∧ W.cell? ⟨g, 1088, none⟩ = some z' ∧ W.cell? ⟨g, 1089, none⟩ = some u' ∧ Below w0.heap.size w0 W) :
    (W.alloc o).cell? ⟨n, 0, none⟩ = some x ∧ (W.alloc o).cell? ⟨n, 1, none⟩ = some y ∧ (W.alloc o).cell? ⟨g, 0, none⟩ = some z ∧ (W.alloc o).cell? ⟨g, 1, none⟩ = some u ∧ (W.alloc o).cell? ⟨g, 1088, none⟩ = some z' ∧ (W.alloc o).cell? ⟨g, 1089, none⟩ = some u' ∧ Below w0.heap.size w0 (W.alloc o) :=
  keepT ((Below.refl _ _).alloc (Nat.le_refl _) _) h
theorem keepD {W w0 : World} {n g : Nat} {x y z u z' u' : Value}
    (h : W.cell? ⟨n, 0, none⟩ = some x ∧ W.cell? ⟨n, 1, none⟩ = some y ∧ W.cell? ⟨g, 0, none⟩ = some z ∧ W.cell? ⟨g, 1, none⟩ = some u ∧ W.cell? ⟨g, 1088, none⟩ = some z' ∧ W.cell? ⟨g, 1089, none⟩ = some u' ∧ Below w0.heap.size w0 W) :
    W.drew.cell? ⟨n, 0, none⟩ = some x ∧ W.drew.cell? ⟨n, 1, none⟩ = some y ∧ W.drew.cell? ⟨g, 0, none⟩ = some z ∧ W.drew.cell? ⟨g, 1, none⟩ = some u ∧ W.drew.cell? ⟨g, 1088, none⟩ = some z' ∧ W.drew.cell? ⟨g, 1089, none⟩ = some u' ∧ Below w0.heap.size w0 W.drew :=
  ⟨h.1, h.2.1, h.2.2.1, h.2.2.2.1, h.2.2.2.2.1, h.2.2.2.2.2.1, h.2.2.2.2.2.2.drew⟩
theorem mayTop (w : World) : Calls Try.prog 9 #[.agg #[.int .i64 1023, .int .i64 1023]] w fun e w' => e = .returned (.bool true) ∧ Below w.heap.size w w' := May_any 1023 1023 w
theorem distTop (w : World) : Calls Try.prog 11 #[.agg #[.int .i64 0, .int .i64 0], .agg #[.int .i64 1023, .int .i64 1023]] w fun e w' => e = .returned (.int .i64 2046) ∧ Below w.heap.size w w' := Dist_any 0 0 1023 1023 w
theorem row_same (sv tv : Value) (xs : List (Int × Int)) (hx : xs.length ≤ 140737488351232) (w : World) (hI : Place.Rows w.heap.size w sv xs) (hJ : Place.Rows w.heap.size w tv xs) :
    Calls Try.prog 20 #[sv, tv] w fun e w' => e = .returned (.bool true) ∧ Below w.heap.size w w' := by
  have := row_any sv tv xs xs hx w hI hJ
  rwa [show decide (xs = xs) = true by simp] at this

theorem rowAfter {W : World} {sv : Value} (hr : Place.Rows W.heap.size W sv [(1023, 1023)]) :
    Calls Try.prog 20 #[sv, .slice (some ⟨W.heap.size, 0, none⟩) 1 1] (W.alloc (.cells #[.int .i64 1023, .int .i64 1023] 23)) fun e w' => e = .returned (.bool true) ∧ Below (W.alloc (.cells #[.int .i64 1023, .int .i64 1023] 23)).heap.size (W.alloc (.cells #[.int .i64 1023, .int .i64 1023] 23)) w' :=
  row_same _ _ [(1023, 1023)] (by simp) _ (hr.keep ((Below.refl _ _).alloc (Nat.le_refl _) _)) (rows_built (cs := #[.int .i64 1023, .int .i64 1023]) (At.new_ _ _ _ rfl) [(1023, 1023)] rfl)
theorem rowBefore {X W : World} {sv : Value} {n : Nat} (hr : Place.Rows W.heap.size W sv [(1023, 1023)]) (hb : Below (X.alloc (.cells #[.int .i64 1023, .int .i64 1023] 23)).heap.size (X.alloc (.cells #[.int .i64 1023, .int .i64 1023] 23)) W) (hn : n = X.heap.size) :
    Calls Try.prog 20 #[sv, .slice (some ⟨n, 0, none⟩) 1 1] W fun e w' => e = .returned (.bool true) ∧ Below W.heap.size W w' :=
  row_same _ _ [(1023, 1023)] (by simp) _ hr (Place.Rows.keep (rows_built (cs := #[.int .i64 1023, .int .i64 1023]) (At.new_ _ _ _ hn) [(1023, 1023)] rfl) hb)

set_option maxRecDepth 100000 in
set_option maxHeartbeats 8000000 in
theorem walk (w : World) : Calls Try.prog 7 #[] w fun e w' => e = .returned (.bool true) ∧ Below w.heap.size w w' := by
  have hT0 : At (((w.alloc (.cells #[.int .i64 1023, .int .i64 1023] 23)).alloc (.cells #[.int .i64 1023, .int .i64 1023] 23)).alloc (.cells #[.int .i64 500, .int .i64 500] 23)) (w.heap.size + 1) 23 #[.int .i64 1023, .int .i64 1023] := (At.new_ _ _ _ (by simp)).alloc _
  have hb0 : Below w.heap.size w (((w.alloc (.cells #[.int .i64 1023, .int .i64 1023] 23)).alloc (.cells #[.int .i64 1023, .int .i64 1023] 23)).alloc (.cells #[.int .i64 500, .int .i64 500] 23)) := by
    repeat (first | exact Below.refl _ _ | refine Below.alloc ?_ (by simp <;> omega) _)
  go_enter Try.func7, Try.ntmps7
  go_wp2_with (go_at_call 19; refine (at_ex _ _ _).mono ?_; rintro e w' ⟨rfl, rfl⟩)
  generalize (((w.alloc (.cells #[.int .i64 1023, .int .i64 1023] 23)).alloc (.cells #[.int .i64 1023, .int .i64 1023] 23)).alloc (.cells #[.int .i64 500, .int .i64 500] 23)) = w0 at *
  refine (Near_any _ _ _ _).mono ?_
  rintro e w1 ⟨⟨v1, rfl, hr1⟩, hb1⟩
  have hT1 := hT0.keep hb1 hT0.inside
  have hB1 := hb0.trans (hb1.mono hb0.size)
  clear hb1 hb0 hT0 w0
  have hlen := near_545
  have hfirst := near_first
  have hlast := near_last
  obtain ⟨L, hL⟩ : ∃ L, nearL (500, 500) 16 = L := ⟨_, rfl⟩
  rw [hL] at hr1 hlen hfirst hlast
  clear hL
  obtain ⟨g, cap, rfl, hg, l0, l1, l2, l3⟩ : ∃ g cap, v1 = .slice (some ⟨g, 0, none⟩) 545 cap ∧ g < w1.heap.size ∧ w1.cell? ⟨g, 0, none⟩ = some (.int .i64 484) ∧ w1.cell? ⟨g, 1, none⟩ = some (.int .i64 500) ∧ w1.cell? ⟨g, 1088, none⟩ = some (.int .i64 516) ∧ w1.cell? ⟨g, 1089, none⟩ = some (.int .i64 500) := by
    rcases hr1 with ⟨a, cap, rfl, h0⟩ | ⟨g, cap, rfl, hg, hc⟩
    · rw [h0] at hlen
      simp at hlen
    · have h1 := hc 0 (by omega)
      have h2 := hc 544 (by omega)
      rw [hfirst] at h1
      rw [hlast] at h2
      exact ⟨g, cap, by rw [hlen], hg, h1.1, h1.2, h2.1, h2.2⟩
  clear hlen hfirst hlast hr1
  have hk12 : Below w1.heap.size w1 (((((((w1.alloc (.cells #[.int .i64 (-1), .int .i64 0] 23)).alloc (.cells #[.int .i64 0, .int .i64 (-1)] 23)).alloc (.cells #[.int .i64 1024, .int .i64 0] 23)).alloc (.cells #[.int .i64 0, .int .i64 1024] 23)).alloc (.cells #[.int .i64 9223372036854775807, .int .i64 0] 23)).alloc (.cells #[.int .i64 0, .int .i64 (-9223372036854775808)] 23)).alloc (.cells #[.int .i64 (-1), .int .i64 0, .int .i64 0, .int .i64 (-1), .int .i64 1024, .int .i64 0, .int .i64 0, .int .i64 1024, .int .i64 9223372036854775807, .int .i64 0, .int .i64 0, .int .i64 (-9223372036854775808)] 23)) := by
    repeat (first | exact Below.refl _ _ | refine Below.alloc ?_ (by simp <;> omega) _)
  have hQ : At (((((((w1.alloc (.cells #[.int .i64 (-1), .int .i64 0] 23)).alloc (.cells #[.int .i64 0, .int .i64 (-1)] 23)).alloc (.cells #[.int .i64 1024, .int .i64 0] 23)).alloc (.cells #[.int .i64 0, .int .i64 1024] 23)).alloc (.cells #[.int .i64 9223372036854775807, .int .i64 0] 23)).alloc (.cells #[.int .i64 0, .int .i64 (-9223372036854775808)] 23)).alloc (.cells #[.int .i64 (-1), .int .i64 0, .int .i64 0, .int .i64 (-1), .int .i64 1024, .int .i64 0, .int .i64 0, .int .i64 1024, .int .i64 9223372036854775807, .int .i64 0, .int .i64 0, .int .i64 (-9223372036854775808)] 23)) (w1.heap.size + 1 + 1 + 1 + 1 + 1 + 1) 23 #[.int .i64 (-1), .int .i64 0, .int .i64 0, .int .i64 (-1), .int .i64 1024, .int .i64 0, .int .i64 0, .int .i64 1024, .int .i64 9223372036854775807, .int .i64 0, .int .i64 0, .int .i64 (-9223372036854775808)] := At.new_ _ _ _ (by simp)
  have hw := rows_built (cap := 6) hQ wild rfl
  go_wp2_with (go_at_call 19; refine (at_ex _ _ _).mono ?_; rintro e w' ⟨rfl, rfl⟩)
  generalize (((((((w1.alloc (.cells #[.int .i64 (-1), .int .i64 0] 23)).alloc (.cells #[.int .i64 0, .int .i64 (-1)] 23)).alloc (.cells #[.int .i64 1024, .int .i64 0] 23)).alloc (.cells #[.int .i64 0, .int .i64 1024] 23)).alloc (.cells #[.int .i64 9223372036854775807, .int .i64 0] 23)).alloc (.cells #[.int .i64 0, .int .i64 (-9223372036854775808)] 23)).alloc (.cells #[.int .i64 (-1), .int .i64 0, .int .i64 0, .int .i64 (-1), .int .i64 1024, .int .i64 0, .int .i64 0, .int .i64 1024, .int .i64 9223372036854775807, .int .i64 0, .int .i64 0, .int .i64 (-9223372036854775808)] 23)) = w2 at *
  generalize w1.heap.size + 1 + 1 + 1 + 1 + 1 + 1 = q at *
  have hT2 := hT1.keep hk12 hT1.inside
  have hB2 := hB1.trans (hk12.mono hB1.size)
  have hqc : q < w2.heap.size ∧ ∀ j, j < 6 → w2.cell? ⟨q, j * 2, none⟩ = some (.int .i64 (wild[j]?.getD (0, 0)).1) ∧ w2.cell? ⟨q, j * 2 + 1, none⟩ = some (.int .i64 (wild[j]?.getD (0, 0)).2) := by
    rcases hw with ⟨a, c, h1, h2⟩ | ⟨b, c, h1, h2, h3⟩
    · cases h2
    · cases h1
      exact ⟨h2, h3⟩
  obtain ⟨hq, hqc⟩ := hqc
  have hqc' := Lib.hid hqc
  have m0 := (hk12.cell (p := ⟨g, 0, none⟩) hg).trans l0
  have m1 := (hk12.cell (p := ⟨g, 1, none⟩) hg).trans l1
  have m2 := (hk12.cell (p := ⟨g, 1088, none⟩) hg).trans l2
  have m3 := (hk12.cell (p := ⟨g, 1089, none⟩) hg).trans l3
  have hg2 := Nat.lt_of_lt_of_le hg hk12.size
  clear hqc hw hQ hk12 hT1 hB1 l0 l1 l2 l3 hg
  have m0' := Lib.hid m0
  have m1' := Lib.hid m1
  have m2' := Lib.hid m2
  have m3' := Lib.hid m3
  clear m0 m1 m2 m3
  generalize w.heap.size + 1 = n at *
  go_loopw [4] (fun i wr => ∃ k : Nat, k ≤ 6 ∧ i = .int .i64 k ∧ Below w2.heap.size w2 wr) (fun i _ => 6 - (intOf i).toNat)
  case atStart => exact ⟨0, by omega, rfl, Below.refl _ _⟩
  case round =>
    obtain ⟨k, hk, rfl, hb⟩ := hrel
    by_cases hlt : k < 6
    · have t3 : decide ((k : Int) < 6) = true := by rw [decide_eq_true_eq]; omega
      have c1 := hqc'.out k hlt
      have hm := wild_no k hlt
      have hT := hT2.keep hb hT2.inside
      have p0 := hT.cell 0
      have p1 := hT.cell 1
      simp at p0 p1
      have x0 := (hb.cell (p := ⟨q, k * 2, none⟩) hq).trans c1.1
      have x1 := (hb.cell (p := ⟨q, k * 2 + 1, none⟩) hq).trans c1.2
      clear c1 hT
      generalize wild[k]?.getD (0, 0) = X at *
      obtain ⟨X1, X2⟩ := X
      simp only at x0 x1
      have d1 : distV (X1, X2) (1023, 1023) = 0 := distV_no1 hm
      have d2 : distV (1023, 1023) (X1, X2) = 0 := distV_no2 hm
      have wl := wayL_no2 (a := (1023, 1023)) hm
      have nl := nearL_no1 (far := 2) hm
      have hMay : ∀ w, Calls Try.prog 9 #[.agg #[.int .i64 X1, .int .i64 X2]] w fun e w' => e = .returned (.bool false) ∧ Below w.heap.size w w' := fun w => by
        have := May_any X1 X2 w
        rwa [hm] at this
      have hWay : ∀ w, Calls Try.prog 14 #[.agg #[.int .i64 1023, .int .i64 1023], .agg #[.int .i64 X1, .int .i64 X2]] w fun e w' => (∃ a c, e = .returned (.slice a 0 c)) ∧ Below w.heap.size w w' := fun w =>
        (Way_any 1023 1023 X1 X2 w).mono fun e w' ⟨⟨v, h1, h2⟩, h3⟩ => by
          rw [wl] at h2
          obtain ⟨a, c, rfl⟩ := h2.slice
          exact ⟨⟨a, c, h1⟩, h3⟩
      have hNear : ∀ w, Calls Try.prog 17 #[.agg #[.int .i64 X1, .int .i64 X2], .int .i64 2] w fun e w' => (∃ a c, e = .returned (.slice a 0 c)) ∧ Below w.heap.size w w' := fun w =>
        (Near_any X1 X2 2 w).mono fun e w' ⟨⟨v, h1, h2⟩, h3⟩ => by
          rw [nl] at h2
          obtain ⟨a, c, rfl⟩ := h2.slice
          exact ⟨⟨a, c, h1⟩, h3⟩
      have hMay' := Lib.hid hMay
      have hWay' := Lib.hid hWay
      have hNear' := Lib.hid hNear
      have k0 : (0 : Int) ≤ (k : Int) := by omega
      have k1 : (k : Int) < 6 := by omega
      clear hMay hWay hNear wl nl hm
      go_wp2
      go_region_held3 (fun w' => w'.cell? ⟨n, 0, none⟩ = some (.int .i64 1023) ∧ w'.cell? ⟨n, 1, none⟩ = some (.int .i64 1023) ∧ w'.cell? ⟨q, k * 2, none⟩ = some (.int .i64 X1) ∧ w'.cell? ⟨q, k * 2 + 1, none⟩ = some (.int .i64 X2) ∧ Below w2.heap.size w2 w')
        (first | exact ⟨p0, p1, x0, x1, below_drewN hb 1⟩ | exact keepS hb1 (by assumption) | exact keepS hb3 (by assumption) | exact keepS hb5 (by assumption) | exact keepS hb6 (by assumption))
        (first | (go_at_call 9; refine (hMay'.out _).mono ?_; rintro e w1 ⟨rfl, hb1⟩) | (go_at_call 11; refine (Dist_any _ _ _ _ _).mono ?_; rintro e w3 ⟨rfl, hb3⟩) | (go_at_call 14; refine (hWay'.out _).mono ?_; rintro e w5 ⟨⟨a5, c5, rfl⟩, hb5⟩) | (go_at_call 17; refine (hNear'.out _).mono ?_; rintro e w6 ⟨⟨a6, c6, rfl⟩, hb6⟩))
      obtain ⟨_, _, _, _, hb'⟩ : w6.cell? ⟨n, 0, none⟩ = some (.int .i64 1023) ∧ w6.cell? ⟨n, 1, none⟩ = some (.int .i64 1023) ∧ w6.cell? ⟨q, k * 2, none⟩ = some (.int .i64 X1) ∧ w6.cell? ⟨q, k * 2 + 1, none⟩ = some (.int .i64 X2) ∧ Below w2.heap.size w2 w6 := by assumption
      clear hb hb1 hb3 hb5 hb6 p0 p1 x0 x1 d1 d2 hMay' hWay' hNear'
      go_wp2
      go_roundw
      case rel => exact ⟨k + 1, by omega, by go_num, hb'⟩
      case measure => simp [intOf]; omega
    · obtain rfl : k = 6 := by omega
      have tK := Lib.hid (fun W (h : Below w2.heap.size w2 W) => topCells hT2 h)
      have lK := Lib.hid (fun W (h : Below w2.heap.size w2 W) => listCells m0'.out m1'.out m2'.out m3'.out h)
      clear hqc' m0' m1' m2' m3' hT2 hq hg2
      obtain ⟨t0, t1⟩ := tK.out _ hb
      obtain ⟨l0, l1, l2, l3⟩ := lK.out _ hb
      clear tK lK
      go_wp2_with fail
      simp only [List.append_eq, List.cons_append, List.nil_append]
      go_region_held3 (fun w' => w'.cell? ⟨n, 0, none⟩ = some (.int .i64 1023) ∧ w'.cell? ⟨n, 1, none⟩ = some (.int .i64 1023) ∧ w'.cell? ⟨g, 0, none⟩ = some (.int .i64 484) ∧ w'.cell? ⟨g, 1, none⟩ = some (.int .i64 500) ∧ w'.cell? ⟨g, 1088, none⟩ = some (.int .i64 516) ∧ w'.cell? ⟨g, 1089, none⟩ = some (.int .i64 500) ∧ Below w2.heap.size w2 w')
        (first | with_reducible exact keepA (by assumption) | with_reducible exact keepD ⟨t0, t1, l0, l1, l2, l3, hb⟩ | with_reducible exact keepT hb1 (by assumption) | with_reducible exact keepT hb22 (by assumption) | with_reducible exact keepT hb3 (by assumption) | with_reducible exact keepT hb6 (by assumption) | with_reducible exact keepT hb8 (by assumption) | with_reducible exact keepT hb9 (by assumption) | with_reducible exact keepT hb10 (by assumption))
        (first | (go_at_call 19; refine (at_ex _ _ _).mono ?_; rintro e w' ⟨rfl, rfl⟩) | (go_at_call 16; refine (works_any _).mono ?_; rintro e w1 ⟨rfl, hb1⟩) | (go_at_call 9; refine (mayTop _).mono ?_; rintro e w22 ⟨rfl, hb22⟩) | (go_at_call 11; refine (distTop _).mono ?_; rintro e w3 ⟨rfl, hb3⟩) | (go_at_call 14; refine (Way_any _ _ _ _ _).mono ?_; rintro e w6 ⟨⟨v6, rfl, hr6⟩, hb6⟩; first | (rw [way_same] at hr6) | (obtain ⟨a6, c6, rfl⟩ := hr6.slice; rw [way_top])) | (go_at_call 20; with_reducible refine Calls.mono (rowAfter hr9) ?_; rintro e w10 ⟨rfl, hb10⟩) | (go_at_call 20; with_reducible refine Calls.mono (rowBefore hr9 hb9 (by first | rfl | simp)) ?_; rintro e w10 ⟨rfl, hb10⟩) | (go_at_call 20; with_reducible refine Calls.mono (rowAfter hr6) ?_; rintro e w8 ⟨rfl, hb8⟩) | (go_at_call 20; with_reducible refine Calls.mono (rowBefore hr6 hb6 (by first | rfl | simp)) ?_; rintro e w8 ⟨rfl, hb8⟩) | (go_at_call 17; refine (Near_any _ _ _ _).mono ?_; rintro e w9 ⟨⟨v9, rfl, hr9⟩, hb9⟩; first | (rw [near_0] at hr9) | (rw [near_17] at hr9; obtain ⟨a9, c9, rfl⟩ := hr9.slice) | (rw [near_m1] at hr9; obtain ⟨a9, c9, rfl⟩ := hr9.slice)))
      all_goals
        obtain ⟨_, _, _, _, _, _, hB⟩ : w9.cell? ⟨n, 0, none⟩ = some (.int .i64 1023) ∧ w9.cell? ⟨n, 1, none⟩ = some (.int .i64 1023) ∧ w9.cell? ⟨g, 0, none⟩ = some (.int .i64 484) ∧ w9.cell? ⟨g, 1, none⟩ = some (.int .i64 500) ∧ w9.cell? ⟨g, 1088, none⟩ = some (.int .i64 516) ∧ w9.cell? ⟨g, 1089, none⟩ = some (.int .i64 500) ∧ Below w2.heap.size w2 w9 := by assumption
        have hE := hB2.trans (hB.mono hB2.size)
        clear hB hb1 hb22 hb3 hb6 hb8 hb9 hb10 hr6 hr9 t0 t1 l0 l1 l2 l3
        go_wp2
        go_ret
        exact ⟨rfl, hE⟩

set_option maxRecDepth 100000 in
theorem lifted (os : Os) (started : os.Started) (H : Type) (enc : TypeId × Value → H) :
    ReturnsInHanded {} Try.checked os 7 .any (Rows.placeKnownSpec.pre6 enc Try.prog Try.f7 Rows.placeKnownRow.domain false) (Rows.placeKnownSpec.post enc Try.prog Try.f7 false true false false) := by
  refine returnsInHanded_of_change (C := Try.checked) own started (by kernel_rfl) Try.func7
    (ChangeSpec.witness6 (enc := enc) (C := Try.checked) false ⟨#[], #[], []⟩ 8 (by kernel_rfl) (by kernel_rfl) (by kernel_rfl) (by kernel_rfl)) ?_
  intro W base args ds gs before hval0 hW hcnd _
  have hW' := hW
  obtain ⟨p, q, hA0, hV, rfl, hfz, hnd⟩ := hW
  have hA : DataW.TrodAll enc Try.prog W 0 (fun _ => true) true Try.f7.params.toList args.toList ds p := hA0
  rw [Try.params7] at hA
  obtain ⟨rfl, rfl, rfl⟩ := trodAll_none hA
  obtain ⟨rfl, rfl⟩ := trodVars_none hV
  exact (walk W).mono fun e W' ⟨he, hb⟩ => ⟨_, he, Close.law_post laidOut (by kernel_rfl) rfl (by kernel_rfl) Try.underlying4 hW' rfl hb⟩

theorem over : Rows.placeKnownRow.holds Try.pinned (OpenSpec.ofChange Rows.placeKnownSpec) :=
  OpenClaim.holds_of_wide 7 Try.f7 rfl rfl rfl rfl rfl rfl rfl ⟨rfl, rfl, rfl, rfl, rfl⟩ rfl rfl rfl rfl rfl (by kernel_rfl) Try.func7 (by kernel_rfl)
    (of_decide_eq_true (by kernel_rfl)) (by unfold Func.isWrapper; first | (rw [if_pos (by decide +kernel)]; kernel_rfl) | (rw [if_neg (by decide +kernel)]; exact ⟨rfl, rfl⟩))
    (fun os started H enc _ => lifted os started H enc)

theorem proved : Rows.PlaceKnownSaid := over
#print axioms proved

end Go.Proofs.Ytjojdfbjecbhnaa.placeKnown

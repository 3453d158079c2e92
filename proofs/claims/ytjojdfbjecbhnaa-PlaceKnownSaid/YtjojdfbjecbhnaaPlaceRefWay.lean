/-
  The contract of the document's Way.
-/
import Derived.Test.YtjojdfbjecbhnaaPlaceWay3
namespace Go.Proofs.Ytjojdfbjecbhnaa.Place
open Go.RowKit Go.Proofs.Ytjojdfbjecbhnaa.Mem
set_option linter.unusedVariables false

theorem owns_row {W : World} {base : Nat} {e : TypeId} {size n : Nat} {v : Value} {xs : List Value} (h : W.ownsRow base e size v n xs) : ∀ r, v.ownBlock = some r → base ≤ r := by
  intro r hr
  obtain ⟨_, ⟨rfl, _⟩ | ⟨g', cap', cur, rfl, hb, hg, _⟩⟩ := h
  · simp [Value.ownBlock] at hr
  · simp only [Value.ownBlock, Option.some.injEq] at hr
    omega

theorem owns_size {W : World} {base : Nat} {e : TypeId} {size n : Nat} {v : Value} {xs : List Value} (h : W.ownsRow base e size v n xs) (hn : n ≠ 0) : base ≤ W.heap.size := by
  obtain ⟨_, ⟨_, h0⟩ | ⟨g', cap', cur, rfl, hb, hg, _⟩⟩ := h
  · exact absurd h0 hn
  · exact Nat.le_trans hb (Nat.le_of_lt (Array.getElem?_eq_some_iff.1 hg).1)

theorem owns_one {W : World} {base : Nat} (hb : base ≤ W.heap.size) (x y : Int) : (W.alloc (.cells #[.int .i64 x, .int .i64 y] 23)).ownsRow base 23 2 (.slice (some ⟨W.heap.size, 0, none⟩) 1 1) 1 [.int .i64 x, .int .i64 y] :=
  ⟨rfl, .inr ⟨W.heap.size, 1, #[.int .i64 x, .int .i64 y], rfl, hb, heap_alloc_new W _, Nat.le_refl _, by unfold maxLen; omega, rfl, rfl⟩⟩

theorem heap_alloc_new_ (w : World) (o : Obj) {n : Nat} (h : w.heap.size = n) : (w.alloc o).heap[n]? = some o := by subst h; exact heap_alloc_new w o

/-- What a round of the document's Way leaves. -/
theorem refWay_round {w wr w7 : World} {base : Nat} {u : Value} {cs : Array Value} {bx by_ : Int} {xs : List (Int × Int)} (hA : At wr w.heap.size 23 cs) (hB : At wr (w.heap.size + 1) 23 #[.int .i64 bx, .int .i64 by_]) (hbw : Below w.heap.size w wr)
    (hbase : w.heap.size + 2 ≤ base) (hown : wr.ownsRow base 23 2 u xs.length (flat xs)) (i : Nat) (x : Value) (o : Obj) (hgr : ((wr.setCell ⟨w.heap.size, i, none⟩ x).alloc o).grownBy w7 u.ownBlock) :
    At w7 w.heap.size 23 (cs.setIfInBounds i x) ∧ At w7 (w.heap.size + 1) 23 #[.int .i64 bx, .int .i64 by_] ∧ Below w.heap.size w w7 := by
  have hr := owns_row hown
  have hk : ∀ {k t cs}, At (wr.setCell ⟨w.heap.size, i, none⟩ x) k t cs → k < w.heap.size + 2 → At w7 k t cs := fun {k t cs} h hk =>
    (hgr.block k (by have := h.inside; simp at this ⊢; omega) (fun e => by have := hr k e.symm; omega)).trans (h.alloc o)
  refine ⟨hk (hA.put i x) (by omega), hk (hB.far (by omega) i x) (by omega), ?_⟩
  exact (((hbw.setCell (p := ⟨w.heap.size, i, none⟩) (Nat.le_refl _) x).alloc (by simpa using hbw.size) o).grown hgr (by have := hbw.size; simp; omega) (fun k e => by have := hr k e; omega))

set_option maxRecDepth 100000 in
set_option maxHeartbeats 8000000 in
theorem refWay_yes (a b : Int × Int) (hma : mayB a = true) (hmb : mayB b = true) (w : World) :
    Calls Try.prog 15 #[.agg #[.int .i64 a.1, .int .i64 a.2], .agg #[.int .i64 b.1, .int .i64 b.2]] w fun e w' =>
      (∃ v, e = .returned v ∧ Rows w'.heap.size w' v (upto a b (wayN a b))) ∧ Below w.heap.size w w' := by
  obtain ⟨i0, hi, hz0, hz1, hz2⟩ := info_parts info_place
  have ga := (mayB_iff _).1 hma
  have gb := (mayB_iff _).1 hmb
  have hnn : wayN a b ≤ 3000 := by
    have := gap_side ga.1 gb.1
    have := gap_side ga.2 gb.2
    unfold wayN nx ny
    omega
  have hb0 : Below w.heap.size w ((w.alloc (.cells #[.int .i64 a.1, .int .i64 a.2] 23)).alloc (.cells #[.int .i64 b.1, .int .i64 b.2] 23)) := ((Below.refl _ _).alloc (Nat.le_refl _) _).alloc (by simp) _
  have hA0 : At ((w.alloc (.cells #[.int .i64 a.1, .int .i64 a.2] 23)).alloc (.cells #[.int .i64 b.1, .int .i64 b.2] 23)) w.heap.size 23 #[.int .i64 a.1, .int .i64 a.2] := (At.new w _ _).alloc _
  have hB0 : At ((w.alloc (.cells #[.int .i64 a.1, .int .i64 a.2] 23)).alloc (.cells #[.int .i64 b.1, .int .i64 b.2] 23)) (w.heap.size + 1) 23 #[.int .i64 b.1, .int .i64 b.2] := At.new_ _ _ _ (by simp)
  go_enter Try.func15, Try.ntmps15
  go_wp2_with fail
  generalize ((w.alloc (.cells #[.int .i64 a.1, .int .i64 a.2] 23)).alloc (.cells #[.int .i64 b.1, .int .i64 b.2] 23)) = w0 at *
  refine (refMay_any _ _ _).mono ?_
  rintro e w1 ⟨rfl, hb1⟩
  rw [show mayB (a.1, a.2) = true from hma]
  have hA1 := hA0.keep hb1 hA0.inside
  have hB1 := hB0.keep hb1 hB0.inside
  have b10 := hB1.cell 0
  have b11 := hB1.cell 1
  simp at b10 b11
  go_wp2_with fail
  refine (refMay_any _ _ _).mono ?_
  rintro e w2 ⟨rfl, hb2⟩
  rw [show mayB (b.1, b.2) = true from hmb]
  have hA2 := hA1.keep hb2 hA1.inside
  have hB2 := hB1.keep hb2 hB1.inside
  have a20 := hA2.cell 0
  have a21 := hA2.cell 1
  simp at a20 a21
  have hB02 : Below w.heap.size w w2 := (hb0.trans (hb1.mono hb0.size)).trans (hb2.mono (hb0.trans (hb1.mono hb0.size)).size)
  clear hA0 hB0 hA1 hB1 hb0 hb1 hb2 b10 b11
  have hl1 := hB2.inside
  have hA3 := hA2.alloc (.cells #[.int .i64 a.1, .int .i64 a.2] 23)
  have hB3 := hB2.alloc (.cells #[.int .i64 a.1, .int .i64 a.2] 23)
  have hb3 := hB02.alloc hB02.size (.cells #[.int .i64 a.1, .int .i64 a.2] 23)
  have ho3 := owns_one (Nat.le_refl w2.heap.size) a.1 a.2
  have hgap := Lib.hid (fun k h => way_left a b (k := k) h)
  have hl2 : w.heap.size + 2 ≤ w2.heap.size := by have := hB2.inside; omega
  have hown0 : (w2.alloc (.cells #[.int .i64 a.1, .int .i64 a.2] 23)).ownsRow w2.heap.size 23 2 (.slice (some ⟨w2.heap.size, 0, none⟩) 1 1) (upto a b (0 + 1)).length (flat (upto a b (0 + 1))) := by
    have e : upto a b (0 + 1) = [a] := by simp [upto, pt_0]
    rw [e]
    exact ho3
  have hA30 : At (w2.alloc (.cells #[.int .i64 a.1, .int .i64 a.2] 23)) w.heap.size 23 #[.int .i64 (pt a b 0).1, .int .i64 (pt a b 0).2] := by rw [pt_0]; exact hA3
  clear ho3 hA3 hA2 hB2 hB02
  go_wp2
  go_loopw [5] (fun l wr => ∃ k : Nat, k ≤ nx a b + ny a b ∧ At wr w.heap.size 23 #[.int .i64 (pt a b k).1, .int .i64 (pt a b k).2] ∧ At wr (w.heap.size + 1) 23 #[.int .i64 b.1, .int .i64 b.2] ∧ Below w.heap.size w wr ∧
      wr.ownsRow w2.heap.size 23 2 l (upto a b (k + 1)).length (flat (upto a b (k + 1))))
    (fun _ wr => (gap (numAt wr ⟨w.heap.size, 0, none⟩) b.1 + gap (numAt wr ⟨w.heap.size, 1, none⟩) b.2).toNat)
  case atStart => exact ⟨0, Nat.zero_le _, hA30, hB3, hb3, hown0⟩
  case round =>
    clear hA30 hB3 hb3 hown0 a20 a21
    obtain ⟨k, hk, hA, hB, hbw, hown⟩ := hrel
    have c0 := hA.cell 0
    have c1 := hA.cell 1
    have c2 := hB.cell 0
    have c3 := hB.cell 1
    have f0 := hA.free 0
    have f1 := hA.free 1
    simp at c0 c1 c2 c3
    have hsd := (mayB_iff _).1 (pt_side a b k hma hmb)
    have hm1 : numAt wr ⟨w.heap.size, 0, none⟩ = (pt a b k).1 := by simp [numAt, c0]
    have hm2 : numAt wr ⟨w.heap.size, 1, none⟩ = (pt a b k).2 := by simp [numAt, c1]
    rw [hm1, hm2, hgap.out k hk]
    clear hm1 hm2
    have hul := upto_length a b (k + 1)
    have hul2 : (upto a b (k + 1)).length ≤ 3001 := by rw [hul]; unfold wayN at hnn; omega
    have hsz := owns_size hown (by rw [hul]; omega)
    clear hul
    by_cases hlt : k < nx a b + ny a b
    · have hcs := way_cases a b hlt
      rcases hcs with hcs | hcs | hcs | hcs
      · obtain ⟨hc, hp1, hp2⟩ := hcs
        replace hp1 := Lib.hid hp1
        replace hp2 := Lib.hid hp2
        have t1 : ((pt a b k).1 == b.1) = false := by rw [beq_eq_false_iff_ne]; omega
        go_wp2_with (at_builtin; refine wpList_append_own _ rfl _ _ 30 rfl w2.heap.size 23 i0 (.agg #[.int .i64 0, .int .i64 0]) 2 16 Try.underlying30 hi hz0 hz1 hz2 rfl (by decide) _ _ _ rfl (World.ownsRow.alloc (ownsRow_setCell_below hown (a := ⟨w.heap.size, 0, none⟩) (by simp; omega) (.int .i64 ((pt a b k).1 + 1))) _) ⟨wr.heap.size, 0, none⟩ 1 1 [.int .i64 ((pt a b k).1 + 1), .int .i64 (pt a b k).2] rfl rfl (World.news_of_block (cs := #[.int .i64 ((pt a b k).1 + 1), .int .i64 (pt a b k).2]) (t := 23) (fr := (0, 0)) (heap_alloc_new_ _ _ (by simp))) (by simp [Value.oneCell']) (by unfold maxLen; omega) (by omega) (by simp; omega) ?_; intro v7 w7 hown7 hgrow7 hnil7)
        have hr := refWay_round hA hB hbw hl2 hown 0 (.int .i64 ((pt a b k).1 + 1)) _ hgrow7
        obtain ⟨hr1, hr2, hr3⟩ := hr
        have hr1' : At w7 w.heap.size 23 #[.int .i64 (pt a b (k + 1)).1, .int .i64 (pt a b (k + 1)).2] := by
          rw [hp1.out, hp2.out]
          simpa using hr1
        have n1 : numAt w7 ⟨w.heap.size, 0, none⟩ = (pt a b (k + 1)).1 := by
          have := hr1'.cell 0
          simp at this
          simp [numAt, this]
        have n2 : numAt w7 ⟨w.heap.size, 1, none⟩ = (pt a b (k + 1)).2 := by
          have := hr1'.cell 1
          simp at this
          simp [numAt, this]
        have hgl := hgap.out (k + 1) (by omega)
        go_roundw
        case rel =>
          refine ⟨k + 1, by omega, hr1', hr2, hr3, ?_⟩
          rw [upto_succ a b (k + 1), flat_snoc, List.length_append, upto_length, hp1.out, hp2.out]
          rw [upto_length] at hown7
          exact hown7
        case measure =>
          rw [n1, n2, hgl]
          omega
      · obtain ⟨hc, hp1, hp2⟩ := hcs
        replace hp1 := Lib.hid hp1
        replace hp2 := Lib.hid hp2
        have t1 : ((pt a b k).1 == b.1) = false := by rw [beq_eq_false_iff_ne]; omega
        go_wp2_with (at_builtin; refine wpList_append_own _ rfl _ _ 30 rfl w2.heap.size 23 i0 (.agg #[.int .i64 0, .int .i64 0]) 2 16 Try.underlying30 hi hz0 hz1 hz2 rfl (by decide) _ _ _ rfl (World.ownsRow.alloc (ownsRow_setCell_below hown (a := ⟨w.heap.size, 0, none⟩) (by simp; omega) (.int .i64 ((pt a b k).1 - 1))) _) ⟨wr.heap.size, 0, none⟩ 1 1 [.int .i64 ((pt a b k).1 - 1), .int .i64 (pt a b k).2] rfl rfl (World.news_of_block (cs := #[.int .i64 ((pt a b k).1 - 1), .int .i64 (pt a b k).2]) (t := 23) (fr := (0, 0)) (heap_alloc_new_ _ _ (by simp))) (by simp [Value.oneCell']) (by unfold maxLen; omega) (by omega) (by simp; omega) ?_; intro v7 w7 hown7 hgrow7 hnil7)
        have hr := refWay_round hA hB hbw hl2 hown 0 (.int .i64 ((pt a b k).1 - 1)) _ hgrow7
        obtain ⟨hr1, hr2, hr3⟩ := hr
        have hr1' : At w7 w.heap.size 23 #[.int .i64 (pt a b (k + 1)).1, .int .i64 (pt a b (k + 1)).2] := by
          rw [hp1.out, hp2.out]
          simpa using hr1
        have n1 : numAt w7 ⟨w.heap.size, 0, none⟩ = (pt a b (k + 1)).1 := by
          have := hr1'.cell 0
          simp at this
          simp [numAt, this]
        have n2 : numAt w7 ⟨w.heap.size, 1, none⟩ = (pt a b (k + 1)).2 := by
          have := hr1'.cell 1
          simp at this
          simp [numAt, this]
        have hgl := hgap.out (k + 1) (by omega)
        go_roundw
        case rel =>
          refine ⟨k + 1, by omega, hr1', hr2, hr3, ?_⟩
          rw [upto_succ a b (k + 1), flat_snoc, List.length_append, upto_length, hp1.out, hp2.out]
          rw [upto_length] at hown7
          exact hown7
        case measure =>
          rw [n1, n2, hgl]
          omega
      · obtain ⟨he, hc, hp1, hp2⟩ := hcs
        replace hp1 := Lib.hid hp1
        replace hp2 := Lib.hid hp2
        have t1 : ((pt a b k).1 == b.1) = true := by rw [beq_iff_eq]; exact he
        have t2 : ((pt a b k).2 == b.2) = false := by rw [beq_eq_false_iff_ne]; omega
        have e1 : ¬ (pt a b k).1 < b.1 := by omega
        have e2 : ¬ b.1 < (pt a b k).1 := by omega
        clear he
        go_wp2_with (at_builtin; refine wpList_append_own _ rfl _ _ 30 rfl w2.heap.size 23 i0 (.agg #[.int .i64 0, .int .i64 0]) 2 16 Try.underlying30 hi hz0 hz1 hz2 rfl (by decide) _ _ _ rfl (World.ownsRow.alloc (ownsRow_setCell_below hown (a := ⟨w.heap.size, 1, none⟩) (by simp; omega) (.int .i64 ((pt a b k).2 + 1))) _) ⟨wr.heap.size, 0, none⟩ 1 1 [.int .i64 (pt a b k).1, .int .i64 ((pt a b k).2 + 1)] rfl rfl (World.news_of_block (cs := #[.int .i64 (pt a b k).1, .int .i64 ((pt a b k).2 + 1)]) (t := 23) (fr := (0, 0)) (heap_alloc_new_ _ _ (by simp))) (by simp [Value.oneCell']) (by unfold maxLen; omega) (by omega) (by simp; omega) ?_; intro v7 w7 hown7 hgrow7 hnil7)
        have hr := refWay_round hA hB hbw hl2 hown 1 (.int .i64 ((pt a b k).2 + 1)) _ hgrow7
        obtain ⟨hr1, hr2, hr3⟩ := hr
        have hr1' : At w7 w.heap.size 23 #[.int .i64 (pt a b (k + 1)).1, .int .i64 (pt a b (k + 1)).2] := by
          rw [hp1.out, hp2.out]
          simpa using hr1
        have n1 : numAt w7 ⟨w.heap.size, 0, none⟩ = (pt a b (k + 1)).1 := by
          have := hr1'.cell 0
          simp at this
          simp [numAt, this]
        have n2 : numAt w7 ⟨w.heap.size, 1, none⟩ = (pt a b (k + 1)).2 := by
          have := hr1'.cell 1
          simp at this
          simp [numAt, this]
        have hgl := hgap.out (k + 1) (by omega)
        go_roundw
        case rel =>
          refine ⟨k + 1, by omega, hr1', hr2, hr3, ?_⟩
          rw [upto_succ a b (k + 1), flat_snoc, List.length_append, upto_length, hp1.out, hp2.out]
          rw [upto_length] at hown7
          exact hown7
        case measure =>
          rw [n1, n2, hgl]
          omega
      · obtain ⟨he, hc, hp1, hp2⟩ := hcs
        replace hp1 := Lib.hid hp1
        replace hp2 := Lib.hid hp2
        have t1 : ((pt a b k).1 == b.1) = true := by rw [beq_iff_eq]; exact he
        have t2 : ((pt a b k).2 == b.2) = false := by rw [beq_eq_false_iff_ne]; omega
        have e1 : ¬ (pt a b k).1 < b.1 := by omega
        have e2 : ¬ b.1 < (pt a b k).1 := by omega
        clear he
        go_wp2_with (at_builtin; refine wpList_append_own _ rfl _ _ 30 rfl w2.heap.size 23 i0 (.agg #[.int .i64 0, .int .i64 0]) 2 16 Try.underlying30 hi hz0 hz1 hz2 rfl (by decide) _ _ _ rfl (World.ownsRow.alloc (ownsRow_setCell_below hown (a := ⟨w.heap.size, 1, none⟩) (by simp; omega) (.int .i64 ((pt a b k).2 - 1))) _) ⟨wr.heap.size, 0, none⟩ 1 1 [.int .i64 (pt a b k).1, .int .i64 ((pt a b k).2 - 1)] rfl rfl (World.news_of_block (cs := #[.int .i64 (pt a b k).1, .int .i64 ((pt a b k).2 - 1)]) (t := 23) (fr := (0, 0)) (heap_alloc_new_ _ _ (by simp))) (by simp [Value.oneCell']) (by unfold maxLen; omega) (by omega) (by simp; omega) ?_; intro v7 w7 hown7 hgrow7 hnil7)
        have hr := refWay_round hA hB hbw hl2 hown 1 (.int .i64 ((pt a b k).2 - 1)) _ hgrow7
        obtain ⟨hr1, hr2, hr3⟩ := hr
        have hr1' : At w7 w.heap.size 23 #[.int .i64 (pt a b (k + 1)).1, .int .i64 (pt a b (k + 1)).2] := by
          rw [hp1.out, hp2.out]
          simpa using hr1
        have n1 : numAt w7 ⟨w.heap.size, 0, none⟩ = (pt a b (k + 1)).1 := by
          have := hr1'.cell 0
          simp at this
          simp [numAt, this]
        have n2 : numAt w7 ⟨w.heap.size, 1, none⟩ = (pt a b (k + 1)).2 := by
          have := hr1'.cell 1
          simp at this
          simp [numAt, this]
        have hgl := hgap.out (k + 1) (by omega)
        go_roundw
        case rel =>
          refine ⟨k + 1, by omega, hr1', hr2, hr3, ?_⟩
          rw [upto_succ a b (k + 1), flat_snoc, List.length_append, upto_length, hp1.out, hp2.out]
          rw [upto_length] at hown7
          exact hown7
        case measure =>
          rw [n1, n2, hgl]
          omega
    · obtain ⟨e1, e2⟩ := way_ends a b (show k = nx a b + ny a b by omega)
      have t1 : ((pt a b k).1 == b.1) = true := by rw [beq_iff_eq]; exact e1
      have t2 : ((pt a b k).2 == b.2) = true := by rw [beq_iff_eq]; exact e2
      have hr := rows_of_owns hown
      rw [show k + 1 = wayN a b by unfold wayN; omega] at hr
      have hr' := Lib.hid hr
      clear e1 e2 hr
      go_wp2
      go_ret
      exact ⟨⟨_, rfl, hr'.out⟩, hbw⟩

end Go.Proofs.Ytjojdfbjecbhnaa.Place

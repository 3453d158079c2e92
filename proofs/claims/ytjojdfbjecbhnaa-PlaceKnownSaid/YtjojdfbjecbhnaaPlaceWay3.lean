/-
  The contract of package place's Way, which gathers what its iterator hands out.
-/
import Derived.Test.YtjojdfbjecbhnaaPlaceWay2
import Derived.Test.YtjojdfbjecbhnaaPlaceSame
import Derived.Deep.AppendLies
namespace Go.Proofs.Ytjojdfbjecbhnaa.Place
open Go.RowKit Go.Shelf Go.Proofs.Ytjojdfbjecbhnaa.Seq Go.Proofs.Ytjojdfbjecbhnaa.Mem
set_option linter.unusedVariables false

attribute [local go_sem] Oper.semAt_some

/-- The cells of places, one behind the other. -/
def flat (xs : List (Int × Int)) : List Value := xs.flatMap fun p => [.int .i64 p.1, .int .i64 p.2]
theorem flat_snoc (xs : List (Int × Int)) (p : Int × Int) : flat (xs ++ [p]) = flat xs ++ [.int .i64 p.1, .int .i64 p.2] := by simp [flat]
theorem flat_length (xs : List (Int × Int)) : (flat xs).length = xs.length * 2 := by
  induction xs with
  | nil => rfl
  | cons p xs ih =>
    have : flat (p :: xs) = [.int .i64 p.1, .int .i64 p.2] ++ flat xs := by simp [flat]
    rw [this, List.length_append, ih]
    simp
    omega
theorem flat_get (xs : List (Int × Int)) (j : Nat) (h : j < xs.length) : (flat xs)[j * 2]? = some (.int .i64 (xs[j]?.getD (0, 0)).1) ∧ (flat xs)[j * 2 + 1]? = some (.int .i64 (xs[j]?.getD (0, 0)).2) := by
  induction xs generalizing j with
  | nil => exact absurd h (by simp)
  | cons p xs ih =>
    have e : flat (p :: xs) = .int .i64 p.1 :: .int .i64 p.2 :: flat xs := by simp [flat]
    rw [e]
    cases j with
    | zero => simp
    | succ j =>
      have := ih j (by simpa using h)
      rw [show (j + 1) * 2 = j * 2 + 2 by omega]
      simpa using this

theorem rows_of_owns {W : World} {base : Nat} {v : Value} {xs : List (Int × Int)} (h : W.ownsRow base 23 2 v xs.length (flat xs)) : Rows W.heap.size W v xs := by
  obtain ⟨hl, ⟨rfl, h0⟩ | ⟨g, cap, cur, rfl, hb, hg, hc1, hc2, hs, ht⟩⟩ := h
  · exact .inl ⟨none, 0, rfl, List.eq_nil_of_length_eq_zero h0⟩
  · refine .inr ⟨g, cap, rfl, (Array.getElem?_eq_some_iff.1 hg).1, fun j hj => ?_⟩
    have hf := flat_get xs j hj
    have e : ∀ i, i < xs.length * 2 → W.cell? ⟨g, i, none⟩ = (flat xs)[i]? := fun i hi => by
      rw [cell_of_row W g i cur 23 (0, 0) hg, ← ht, List.getElem?_take_of_lt hi]
      simp
    rw [e _ (by omega), e _ (by omega)]
    exact hf

theorem owns_lt {W : World} {base : Nat} {e : TypeId} {size g n cap : Nat} {xs : List Value} (h : W.ownsRow base e size (.slice (some ⟨g, 0, none⟩) n cap) n xs) : g < W.heap.size := by
  obtain ⟨_, ⟨h, _⟩ | ⟨g', cap', cur, h', _, hg, _⟩⟩ := h
  · cases h
  · cases h'
    exact (Array.getElem?_eq_some_iff.1 hg).1

theorem after_make {w3 w4 : World} {n : Nat} {x y : Value} (hg : w3.grownBy w4 none) (h : At w3 n 23 #[x, y]) (o : Obj) : (w4.alloc o).cell? ⟨n, 0, none⟩ = some x ∧ (w4.alloc o).cell? ⟨n, 1, none⟩ = some y := by
  have h4 : At (w4.alloc o) n 23 #[x, y] := At.alloc ((hg.block _ h.inside (by simp)).trans h) o
  exact ⟨by have := h4.cell 0; simpa using this, by have := h4.cell 1; simpa using this⟩

theorem after_append {W w7 : World} {o : Obj} {n g : Nat} {t : TypeId} {v : Value} (h : At W n t #[v]) (hg : (W.alloc o).grownBy w7 (some g)) (hn : n ≠ g) : w7.cell? ⟨n, 0, none⟩ = some v ∧ w7.frozen? ⟨n, 0, none⟩ = false := by
  have h7 : At w7 n t #[v] := (hg.block n (by simp; have := h.inside; omega) (by simpa using hn)).trans (h.alloc o)
  exact ⟨by have := h7.cell 0; simpa using this, h7.free 0⟩

theorem onTheWay_any (ax ay bx by_ : Int) (w : World) :
    Calls Try.prog 24 #[.agg #[.int .i64 ax, .int .i64 ay], .agg #[.int .i64 bx, .int .i64 by_]] w fun e w' =>
      e = .returned (.func (.func 25) #[] #[.pointer (some ⟨w.heap.size, 0, none⟩), .pointer (some ⟨w.heap.size + 1, 0, none⟩)]) ∧
      (w.alloc (.cells #[.int .i64 ax, .int .i64 ay] 23)).alloc (.cells #[.int .i64 bx, .int .i64 by_] 23) = w' := by
  go_enter Try.func24, Try.ntmps24
  go_wp2
  go_ret
  exact ⟨rfl, rfl⟩

/-- What Way's own memory holds, when the places pre have come. -/
def WayI (w : World) (n4 g cap : Nat) (a b : Int × Int) (pre : List (Int × Int)) (W : World) : Prop :=
  At W n4 30 #[.slice (some ⟨g, 0, none⟩) pre.length cap] ∧ W.ownsRow w.heap.size 23 2 (.slice (some ⟨g, 0, none⟩) pre.length cap) pre.length (flat pre) ∧
  At W (n4 + 1) 23 #[.int .i64 a.1, .int .i64 a.2] ∧ At W (n4 + 2) 23 #[.int .i64 b.1, .int .i64 b.2] ∧ Below w.heap.size w W
theorem WayI.old {w : World} {n4 g cap : Nat} {a b : Int × Int} (hg : g < n4) (hw : w.heap.size ≤ n4) : Old (n4 + 3) (WayI w n4 g cap a b) := by
  rintro pre A A' row ⟨h1, h2, h3, h4, h5⟩ hgr hr
  have hb : ∀ k, k < n4 + 3 → k < A.heap.size → A'.heap[k]? = A.heap[k]? := fun k hk hs => hgr.block k hs (fun e => by have := hr k e.symm; omega)
  refine ⟨(hb _ (by omega) h1.inside).trans h1, h2.kept hgr (.inr ?_), (hb _ (by omega) h3.inside).trans h3, (hb _ (by omega) h4.inside).trans h4,
    h5.trans ⟨hgr.os, hgr.tape, hgr.output, hgr.size, fun k hk => hb k (by omega) (Nat.lt_of_lt_of_le hk h5.size)⟩⟩
  intro e
  have := hr g e.symm
  omega

theorem owns_base {W : World} {base : Nat} {e : TypeId} {size g n cap : Nat} {xs : List Value} (h : W.ownsRow base e size (.slice (some ⟨g, 0, none⟩) n cap) n xs) : base ≤ g := by
  obtain ⟨_, ⟨h, _⟩ | ⟨g', cap', cur, h', hb, hg, _⟩⟩ := h
  · cases h
  · cases h'
    exact hb

theorem way_round {w : World} {n4 g cap : Nat} {a b : Int × Int} {pre : List (Int × Int)} {W : World} (h : WayI w n4 g cap a b pre W) (hg : g < n4) (hw : w.heap.size ≤ n4) (x : Int × Int) (o : Obj) (w7 : World)
    (hown : w7.ownsRow w.heap.size 23 2 (.slice (some ⟨g, 0, none⟩) (pre.length + 1) cap) (pre.length + 1) (flat pre ++ [.int .i64 x.1, .int .i64 x.2])) (hgr : (W.alloc o).grownBy w7 (some g)) :
    WayI w n4 g cap a b (pre ++ [x]) (w7.setCell ⟨n4, 0, none⟩ (.slice (some ⟨g, 0, none⟩) (pre.length + 1) cap)) ∧ Kept (n4 + 3) W (w7.setCell ⟨n4, 0, none⟩ (.slice (some ⟨g, 0, none⟩) (pre.length + 1) cap)) := by
  obtain ⟨h1, h2, h3, h4, h5⟩ := h
  have hb : ∀ {k t cs}, At W k t cs → k ≠ g → At w7 k t cs := fun {k t cs} hk hn => (hgr.block k (by have := hk.inside; simp; omega) (by simpa using hn)).trans (hk.alloc o)
  refine ⟨⟨?_, ?_, (hb h3 (by omega)).far (by omega) _ _, (hb h4 (by omega)).far (by omega) _ _, ?_⟩, ?_⟩
  · have := (hb h1 (by omega)).put 0 (.slice (some ⟨g, 0, none⟩) (pre.length + 1) cap)
    simpa using this
  · have := ownsRow_setCell_other hown (a := ⟨n4, 0, none⟩) (by simp [Value.ownBlock]; omega) (.slice (some ⟨g, 0, none⟩) (pre.length + 1) cap)
    rw [flat_snoc]
    simpa using this
  · have hbg := owns_base hown
    refine ((h5.alloc h5.size o).grown hgr (by have := h5.size; simp; omega) (fun k e => by cases e; exact hbg)).setCell (by simpa using hw) _
  · refine ((Kept.alloc (n4 + 3) W o).trans (.grown hgr (fun r e => by cases e; omega))).trans (Kept.setCell _ (by omega) _)

theorem info_place : (Try.prog.info? 23).map (fun i => (i.zero, i.size, i.bytes)) = some (some (.agg #[.int .i64 0, .int .i64 0]), 2, 16) := by kernel_rfl

set_option maxRecDepth 100000 in
set_option maxHeartbeats 4000000 in
theorem Way_yes (a b : Int × Int) (hma : mayB a = true) (hmb : mayB b = true) (w : World) :
    Calls Try.prog 14 #[.agg #[.int .i64 a.1, .int .i64 a.2], .agg #[.int .i64 b.1, .int .i64 b.2]] w fun e w' =>
      (∃ v, e = .returned v ∧ Rows w'.heap.size w' v (upto a b (wayN a b))) ∧ Below w.heap.size w w' := by
  have hd := distV_yes hma hmb
  have hdw : gap a.1 b.1 + gap a.2 b.2 + 1 = (wayN a b : Int) := by
    have := gap_nonneg a.1 b.1
    have := gap_nonneg a.2 b.2
    unfold wayN nx ny
    omega
  have ga := (mayB_iff _).1 hma
  have gb := (mayB_iff _).1 hmb
  have g1 := gap_side ga.1 gb.1
  have g2 := gap_side ga.2 gb.2
  obtain ⟨i0, hi, hz0, hz1, hz2⟩ := info_parts info_place
  refine (callsIn_wide (n := 3)).1 ?_
  refine callsIn_of_wp_marks Try.func14 rfl trivial ?_ rfl
  simp only [Try.ntmps14, List.size_toArray, List.length_cons, List.length_nil, Nat.reduceAdd, Nat.reduceSub, Array.replicate_succ, Array.replicate_zero, List.push_toArray, List.append_toArray, List.nil_append, List.cons_append]
  have hb0 : Below w.heap.size w ((w.alloc (.cells #[.int .i64 a.1, .int .i64 a.2] 23)).alloc (.cells #[.int .i64 b.1, .int .i64 b.2] 23)) := ((Below.refl _ _).alloc (Nat.le_refl _) _).alloc (by simp) _
  have hA0 : At ((w.alloc (.cells #[.int .i64 a.1, .int .i64 a.2] 23)).alloc (.cells #[.int .i64 b.1, .int .i64 b.2] 23)) w.heap.size 23 #[.int .i64 a.1, .int .i64 a.2] := (At.new w _ _).alloc _
  have hB0 : At ((w.alloc (.cells #[.int .i64 a.1, .int .i64 a.2] 23)).alloc (.cells #[.int .i64 b.1, .int .i64 b.2] 23)) (w.heap.size + 1) 23 #[.int .i64 b.1, .int .i64 b.2] := At.new_ _ _ _ (by simp)
  gi_wp2_with fail
  generalize ((w.alloc (.cells #[.int .i64 a.1, .int .i64 a.2] 23)).alloc (.cells #[.int .i64 b.1, .int .i64 b.2] 23)) = w0 at *
  refine ⟨trivial, ?_⟩
  refine (callsIn_wide.2 (May_any _ _ _)).mono ?_
  rintro e w1 ⟨rfl, hb1⟩
  rw [show mayB (a.1, a.2) = true from hma]
  have hA1 := hA0.keep hb1 hA0.inside
  have hB1 := hB0.keep hb1 hB0.inside
  have b10 := hB1.cell 0
  have b11 := hB1.cell 1
  simp at b10 b11
  gi_wp2_with fail
  refine ⟨trivial, ?_⟩
  refine (callsIn_wide.2 (May_any _ _ _)).mono ?_
  rintro e w2 ⟨rfl, hb2⟩
  rw [show mayB (b.1, b.2) = true from hmb]
  have hA2 := hA1.keep hb2 hA1.inside
  have hB2 := hB1.keep hb2 hB1.inside
  have a20 := hA2.cell 0
  have a21 := hA2.cell 1
  have b20 := hB2.cell 0
  have b21 := hB2.cell 1
  simp at a20 a21 b20 b21
  gi_wp2_with fail
  refine ⟨trivial, ?_⟩
  refine (callsIn_wide.2 (Dist_any _ _ _ _ _)).mono ?_
  rintro e w3 ⟨rfl, hb3⟩
  rw [show distV (a.1, a.2) (b.1, b.2) = gap a.1 b.1 + gap a.2 b.2 from hd]
  have hA3 := hA2.keep hb3 hA2.inside
  have hB3 := hB2.keep hb3 hB2.inside
  have hB03 : Below w.heap.size w w3 := ((hb0.trans (hb1.mono hb0.size)).trans (hb2.mono (hb0.trans (hb1.mono hb0.size)).size)).trans (hb3.mono ((hb0.trans (hb1.mono hb0.size)).trans (hb2.mono (hb0.trans (hb1.mono hb0.size)).size)).size)
  clear b10 b11 a20 a21 b20 b21 hA1 hB1 hA2 hB2 hA0 hB0 hb1 hb2 hb3
  have am1 := fun w4 (h : w3.grownBy w4 none) => after_make h hA3 (.cells #[.slice (some ⟨w3.heap.size, 0, none⟩) 0 (wayN a b)] 30)
  have am2 := fun w4 (h : w3.grownBy w4 none) => after_make h hB3 (.cells #[.slice (some ⟨w3.heap.size, 0, none⟩) 0 (wayN a b)] 30)
  gi_wp2_with (gi_at_make; refine wpListIn_make_own _ rfl _ _ 30 rfl w.heap.size 23 i0 (.agg #[.int .i64 0, .int .i64 0]) 2 Try.underlying30 hi hz0 hz1 .i64 .i64 _ (wayN a b) rfl rfl rfl (by rw [hz2]; omega) (by unfold maxLen; omega) hB03.size ?_; intro w4 hown4 hgrow4; obtain ⟨a50, a51⟩ := am1 w4 hgrow4; obtain ⟨b50, b51⟩ := am2 w4 hgrow4; clear am1 am2)
  refine ⟨trivial, ?_⟩
  have hA4 : At w4 w.heap.size 23 #[.int .i64 a.1, .int .i64 a.2] := (hgrow4.block _ hA3.inside (by simp)).trans hA3
  have hB4 : At w4 (w.heap.size + 1) 23 #[.int .i64 b.1, .int .i64 b.2] := (hgrow4.block _ hB3.inside (by simp)).trans hB3
  have hb04 : Below w.heap.size w w4 := hB03.trans ⟨hgrow4.os, hgrow4.tape, hgrow4.output, hgrow4.size, fun k hk => hgrow4.block k (Nat.lt_of_lt_of_le hk hB03.size) (by simp)⟩
  have hgw : w.heap.size + 1 < w3.heap.size := hB3.inside
  generalize w3.heap.size = g at *
  have hl4 := owns_lt hown4
  have hA5 := hA4.alloc (.cells #[.slice (some ⟨g, 0, none⟩) 0 (wayN a b)] 30)
  have hB5 := hB4.alloc (.cells #[.slice (some ⟨g, 0, none⟩) 0 (wayN a b)] 30)
  have hL5 := At.new w4 30 #[.slice (some ⟨g, 0, none⟩) 0 (wayN a b)]
  have hb05 := hb04.alloc hb04.size (.cells #[.slice (some ⟨g, 0, none⟩) 0 (wayN a b)] 30)
  have hown5 := hown4.alloc (.cells #[.slice (some ⟨g, 0, none⟩) 0 (wayN a b)] 30)
  have s5 : (w4.alloc (.cells #[.slice (some ⟨g, 0, none⟩) 0 (wayN a b)] 30)).heap.size = w4.heap.size + 1 := by simp
  clear hown4 hA4 hB4 hb04 hgrow4 hA3 hB3 hB03 hd a50 a51 b50 b51
  generalize w4.alloc (.cells #[.slice (some ⟨g, 0, none⟩) 0 (wayN a b)] 30) = w5 at *
  refine (callsIn_wide.2 (onTheWay_any _ _ _ _ _)).mono ?_
  rintro e w6 ⟨rfl, rfl⟩
  have hA6 : At ((w5.alloc (.cells #[.int .i64 a.1, .int .i64 a.2] 23)).alloc (.cells #[.int .i64 b.1, .int .i64 b.2] 23)) (w4.heap.size + 1) 23 #[.int .i64 a.1, .int .i64 a.2] := (At.new_ w5 _ _ s5.symm).alloc _
  have hB6 : At ((w5.alloc (.cells #[.int .i64 a.1, .int .i64 a.2] 23)).alloc (.cells #[.int .i64 b.1, .int .i64 b.2] 23)) (w4.heap.size + 2) 23 #[.int .i64 b.1, .int .i64 b.2] := At.new_ _ _ _ (by simp [s5])
  have h60 : WayI w w4.heap.size g (wayN a b) a b [] ((w5.alloc (.cells #[.int .i64 a.1, .int .i64 a.2] 23)).alloc (.cells #[.int .i64 b.1, .int .i64 b.2] 23)) :=
    ⟨(hL5.alloc _).alloc _, (hown5.alloc _).alloc _, hA6, hB6, (hb05.alloc hb05.size _).alloc (by simp; have := hb05.size; omega) _⟩
  have s6 : ((w5.alloc (.cells #[.int .i64 a.1, .int .i64 a.2] 23)).alloc (.cells #[.int .i64 b.1, .int .i64 b.2] 23)).heap.size = w4.heap.size + 3 := by simp [s5]
  gi_wp2_with fail
  generalize ((w5.alloc (.cells #[.int .i64 a.1, .int .i64 a.2] 23)).alloc (.cells #[.int .i64 b.1, .int .i64 b.2] 23)) = w6 at *
  clear hA6 hB6 hA5 hB5 hL5 hb05 hown5 s5 w5
  generalize w4.heap.size = n4 at *
  have hwn : w.heap.size ≤ n4 := by omega
  have hold : Old w6.heap.size (WayI w n4 g (wayN a b) a b) := by rw [s6]; exact WayI.old hl4 hwn
  have hgives : Gives Try.prog 25 #[.pointer (some ⟨n4 + 1, 0, none⟩), .pointer (some ⟨n4 + 1 + 1, 0, none⟩)] encP (upto a b (wayN a b)) (w6.heap.size + 2) (WayI w n4 g (wayN a b) a b) :=
    way_gives a b hma hmb (n4 + 1) (n4 + 1 + 1) (w6.heap.size + 2) (by omega) (by omega) _ (fun s W h => h.2.2.1) (fun s W h => h.2.2.2.1)
  refine ranges (gf := 25) (lb := #[.pointer (some ⟨n4 + 1, 0, none⟩), .pointer (some ⟨n4 + 1 + 1, 0, none⟩)]) rfl (enters_of Try.func25 (by kernel_rfl) rfl) (encs := encP) (xs := upto a b (wayN a b)) (fun _ => rfl)
    (WayI w n4 g (wayN a b) a b) hold h60 hgives
    (fun x a' W => ∃ Bx, w6.heap.size + 2 ≤ Bx ∧ At W Bx 23 #[.int .i64 x.1, .int .i64 x.2] ∧ a' = { tmps := #[Value.agg #[Value.int IntKind.i64 a.fst, Value.int IntKind.i64 a.snd],
          Value.agg #[Value.int IntKind.i64 b.fst, Value.int IntKind.i64 b.snd],
          Value.pointer (some { block := w.heap.size, off := 0 }),
          Value.pointer (some { block := w.heap.size + 1, off := 0 }), Value.slice none 0 0,
          Value.pointer (some { block := n4, off := 0 }), Value.pointer (some { block := Bx, off := 0 }),
          Value.agg #[Value.int IntKind.i64 a.fst, Value.int IntKind.i64 a.snd], Value.bool true, Value.bool false,
          Value.bool false, Value.agg #[Value.int IntKind.i64 b.fst, Value.int IntKind.i64 b.snd], Value.bool true,
          Value.bool false, Value.bool false, Value.agg #[Value.int IntKind.i64 a.fst, Value.int IntKind.i64 a.snd],
          Value.agg #[Value.int IntKind.i64 b.fst, Value.int IntKind.i64 b.snd],
          Value.int IntKind.i64 (gap a.fst b.fst + gap a.snd b.snd), Value.int IntKind.i64 ↑(wayN a b),
          Value.slice (some { block := g, off := 0 }) 0 (wayN a b),
          Value.agg #[Value.int IntKind.i64 a.fst, Value.int IntKind.i64 a.snd],
          Value.agg #[Value.int IntKind.i64 b.fst, Value.int IntKind.i64 b.snd],
          Value.func (Fn.func 25) #[]
            #[Value.pointer (some { block := n4 + 1, off := 0 }),
              Value.pointer (some { block := n4 + 1 + 1, off := 0 })],
          Value.agg #[Value.int IntKind.i64 x.1, Value.int IntKind.i64 x.2], undef, undef, undef, undef, undef], defers := [] })
    ?hAx ?assign ?body ?done
  case hAx =>
    rintro x a' W o ⟨Bx, h1, h2, h3⟩
    exact ⟨Bx, h1, (World.putObj_heap_other (by omega)).trans h2, h3⟩
  case assign =>
    rintro l pre x W K hW hK
    simp only [encP]
    gi_wp2
    exact hK _ _ (World.grownBy_alloc _ _ _) ⟨W.heap.size, hW, At.new _ _ _, rfl⟩
  case body =>
    rintro l pre x a' W hW ⟨h1, h2, h3, h4, h5⟩ ⟨Bx, hx1, hx2, rfl⟩ hlen
    rw [upto_length] at hlen
    have c1 := h1.cell 0
    have x0 := hx2.cell 0
    have x1 := hx2.cell 1
    simp at c1 x0 x1
    gi_wp2_with (gi_at_builtin; refine wpListIn_append_fits _ rfl _ _ 30 rfl w.heap.size 23 i0 2 Try.underlying30 hi hz1 g pre.length (wayN a b) (flat pre) rfl (h2.alloc _) ⟨W.heap.size, 0, none⟩ 1 1 [.int .i64 x.1, .int .i64 x.2] rfl rfl (World.news_of_block (cs := #[.int .i64 x.1, .int .i64 x.2]) (t := 23) (fr := (0, 0)) (heap_alloc_new W _)) (by simp [Value.oneCell']) (by omega) ?_; intro w7 hown7 hgrow7; obtain ⟨c7, f7⟩ := after_append h1 hgrow7 (by omega))
    have hr := way_round ⟨h1, h2, h3, h4, h5⟩ hl4 hwn x _ w7 hown7 hgrow7
    rw [s6]
    exact hr
  case done =>
    rintro W hW ⟨h1, h2, h3, h4, h5⟩ hD
    have c1 := h1.cell 0
    simp at c1
    gi_wp2
    have hB := h5.trans (belowK_b (w := w) (Nat.le_refl _) W w6.heap.size _ (.deferred none) (by omega) hD rfl rfl)
    have hr := rows_of_owns (ownsRow_putObj h2 (.deferred none) hD rfl)
    refine ⟨by simp, .inl ⟨_, _, rfl, run_takeDeferred hD, ?_⟩⟩
    exact ⟨.slice (some ⟨g, 0, none⟩) (upto a b (wayN a b)).length (wayN a b), by simp [results, Try.results14, go_sem], ⟨_, rfl, hr⟩, hB⟩

theorem wayL_no1 {a b : Int × Int} (h : mayB a = false) : wayL a b = [] := by simp [wayL, h]
theorem wayL_no2 {a b : Int × Int} (h : mayB b = false) : wayL a b = [] := by simp [wayL, h]
theorem wayL_yes {a b : Int × Int} (h : mayB a = true) (h2 : mayB b = true) : wayL a b = upto a b (wayN a b) := by simp [wayL, h, h2]

set_option maxRecDepth 100000 in
set_option maxHeartbeats 1000000 in
theorem Way_any (ax ay bx by_ : Int) (w : World) :
    Calls Try.prog 14 #[.agg #[.int .i64 ax, .int .i64 ay], .agg #[.int .i64 bx, .int .i64 by_]] w fun e w' =>
      (∃ v, e = .returned v ∧ Rows w'.heap.size w' v (wayL (ax, ay) (bx, by_))) ∧ Below w.heap.size w w' := by
  cases h1 : mayB (ax, ay)
  · have hl := Lib.hid (wayL_no1 (b := (bx, by_)) h1)
    go_enter Try.func14, Try.ntmps14
    go_wp2_with fail
    refine (May_any _ _ _).mono ?_
    rintro e w1 ⟨rfl, hb1⟩
    rw [h1]
    have hb0 : Below w.heap.size w ((w.alloc (.cells #[.int .i64 ax, .int .i64 ay] 23)).alloc (.cells #[.int .i64 bx, .int .i64 by_] 23)) := ((Below.refl _ _).alloc (Nat.le_refl _) _).alloc (by simp) _
    have hB := hb0.trans (hb1.mono hb0.size)
    clear hb0 hb1
    go_wp2
    go_ret
    exact ⟨⟨_, rfl, .inl ⟨_, _, rfl, hl.out⟩⟩, hB⟩
  · cases h2 : mayB (bx, by_)
    · have hl := Lib.hid (wayL_no2 (a := (ax, ay)) h2)
      have hb0 : Below w.heap.size w ((w.alloc (.cells #[.int .i64 ax, .int .i64 ay] 23)).alloc (.cells #[.int .i64 bx, .int .i64 by_] 23)) := ((Below.refl _ _).alloc (Nat.le_refl _) _).alloc (by simp) _
      go_enter Try.func14, Try.ntmps14
      go_wp2_with fail
      refine (May_any _ _ _).mono ?_
      rintro e w1 ⟨rfl, hb1⟩
      rw [h1]
      have c3 := (hb1.cell (p := ⟨w.heap.size + 1, 0, none⟩) (by simp)).trans (show _ = some (.int .i64 bx) by go_simp)
      have c4 := (hb1.cell (p := ⟨w.heap.size + 1, 1, none⟩) (by simp)).trans (show _ = some (.int .i64 by_) by go_simp)
      have hB := hb0.trans (hb1.mono hb0.size)
      clear hb0 hb1
      go_wp2_with fail
      refine (May_any _ _ _).mono ?_
      rintro e w2 ⟨rfl, hb2⟩
      rw [h2]
      have hB2 := hB.trans (hb2.mono hB.size)
      clear hb2 hB
      go_wp2
      go_ret
      exact ⟨⟨_, rfl, .inl ⟨_, _, rfl, hl.out⟩⟩, hB2⟩
    · rw [wayL_yes h1 h2]
      exact Way_yes (ax, ay) (bx, by_) h1 h2 w

end Go.Proofs.Ytjojdfbjecbhnaa.Place

/-
  The contract of the laws' own 'near': some stops, whose numbers are small, mostly.
-/
import Derived.Test.YtkeijbefamlckaaRouteSame
namespace Go.Proofs.Ytkeijbefamlckaa.Route
open Go.RowKit Go.Proofs.Ytkeijbefamlckaa.Mem
set_option linter.unusedVariables false

theorem Nums.snoc {l : List (Int × Int)} (h : Nums l) {a b : Int} (ha : I64 a) (hb : I64 b) : Nums (l ++ [(a, b)]) := by
  intro s hs
  rcases List.mem_append.1 hs with hs | hs
  · exact h s hs
  · rw [List.mem_singleton.1 hs]; exact ⟨ha, hb⟩
/-- Some stops. -/
def SomeOk (n : Nat) (W : World) (v : Value) : Prop := ∃ l, Row W.heap.size W v l ∧ l.length ≤ n ∧ Nums l

theorem put_grown (w : World) (g i : Nat) (v : Value) : w.grownBy (w.setCell ⟨g, i, none⟩ v) (some g) :=
  ⟨rfl, rfl, rfl, by simp, fun k hk hn => Below.heap_setCell w ⟨g, i, none⟩ v k (fun e => hn (by rw [e]))⟩
theorem owns_far {v : Value} {q : Nat} (h : ∀ r, v.ownBlock = some r → r < q) : v.ownBlock = none ∨ v.ownBlock ≠ some q := by
  cases hv : v.ownBlock with
  | none => exact .inl rfl
  | some k => exact .inr (fun e => by have := h k hv; cases e; omega)
theorem wrap_bd (x : Int) : I64 (wrap64 x) := by unfold wrap64 I64; omega

set_option maxRecDepth 100000 in
set_option maxHeartbeats 4000000 in
theorem near_any (v : Value) (l : List (Int × Int)) (hnum : Nums l) (w : World) (h : Row w.heap.size w v l) :
    Calls Try.prog 9 #[v] w fun e w' => (∃ v', e = .returned v' ∧ SomeOk 30 w' v') ∧ Below w.heap.size w w' := by
  obtain ⟨i0, hi, hz0, hz1, hz2⟩ := info_parts info_stop
  obtain ⟨x, N, cap, rfl, hN', h0', hc1, hc2⟩ := h.opened
  have h' := Lib.hid h
  have hnum' := Lib.hid hnum
  unfold maxLen at hc2
  clear h hnum
  go_enter Try.func9, Try.ntmps9
  go_wp2
  go_loopw [3, 4] (fun u i wr => ∃ (k : Nat) (m : List (Int × Int)), k ≤ 30 ∧ k ≤ N ∧ i = .int .i64 k ∧ m.length = k ∧ wr.ownsRow w.heap.size 27 2 u m.length (flatS m) ∧ Hid (Nums m) ∧ Below w.heap.size w wr)
    (fun _ i _ => 30 - (intOf i).toNat)
  case atStart => exact ⟨0, [], by omega, by omega, rfl, rfl, by simpa [flatS] using World.ownsRow_nil _ _ _ _, Lib.hid (fun s hs => by cases hs), Below.refl _ _⟩
  case round =>
    obtain ⟨k, m, hk, hkN, rfl, hml, hown, hm, hbw⟩ := hrel
    have hml2 : m.length ≤ 30 := by omega
    have hml3 := Lib.hid hml
    clear hml
    by_cases hlt : k < N
    · by_cases hlt2 : k < 30
      · obtain ⟨⟨s1, s2⟩, hs, _⟩ := drop_get (l := l) (k := k) (by rw [hN'.out]; exact hlt)
        obtain ⟨g, o, rfl, hg, e1, e2⟩ := Row.stop h'.out hs
        have e1 := (hbw.cell (p := ⟨g, o + k * 2, none⟩) hg).trans e1
        have e2 := (hbw.cell (p := ⟨g, o + k * 2 + 1, none⟩) hg).trans e2
        simp at e1 e2
        have hI := hnum'.out _ (List.mem_of_getElem? hs)
        have hI1 := Lib.hid hI.1
        have hI2 := Lib.hid hI.2
        have hS := At.new wr 27 #[.int .i64 s1, .int .i64 s2]
        have ho1 := hown.alloc (.cells #[.int .i64 s1, .int .i64 s2] 27)
        have hB1 := hbw.alloc hbw.size (.cells #[.int .i64 s1, .int .i64 s2] 27)
        have hsz := hbw.size
        have hoq := Lib.hid (fun r e => (hown.lt r e).2)
        obtain ⟨q, hq1, hq2⟩ : ∃ q, wr.heap.size ≤ q ∧ q ≤ wr.heap.size := ⟨_, Nat.le_refl _, Nat.le_refl _⟩
        have hqe := Lib.hid (show wr.heap.size = q by omega)
        clear hs hI hown hbw
        go_upto_region 6 with fail
        rw [hqe.out] at hS
        simp only [hqe.out]
        generalize (wr.alloc (.cells #[.int .i64 s1, .int .i64 s2] 27)) = w1 at *
        have hqi := hS.inside
        have a0 := hS.cell 0
        have a1 := hS.cell 1
        simp at a0 a1
        clear e1 e2
        rw [hqe.out] at hoq
        cases d1 : (s1.tmod 8 != 7)
        case true =>
         have hf := hS.free
         go_upto_region 8 with fail
         have hS2 := hS.put 0 (.int .i64 (wrap64 ((IntKind.u64.wrap s1).tmod 4)))
         have ho2 := World.ownsRow.kept ho1 (put_grown w1 q 0 (.int .i64 (wrap64 ((IntKind.u64.wrap s1).tmod 4)))) (owns_far hoq.out)
         have hB2 := hB1.setCell (show w.heap.size ≤ (⟨q, 0, none⟩ : Addr).block by show w.heap.size ≤ q; omega) (.int .i64 (wrap64 ((IntKind.u64.wrap s1).tmod 4)))
         simp at hS2
         generalize (w1.setCell ⟨q, 0, none⟩ (.int .i64 (wrap64 ((IntKind.u64.wrap s1).tmod 4)))) = w2 at *
         obtain ⟨t1, ht1, ht2⟩ : ∃ t, wrap64 ((IntKind.u64.wrap s1).tmod 4) = t ∧ Hid (I64 t) := ⟨_, rfl, Lib.hid (wrap_bd _)⟩
         rw [ht1] at hS2 ⊢
         clear ht1 hS ho1 hB1 a0 a1 hf
         have a0 := hS2.cell 0
         have a1 := hS2.cell 1
         simp at a0 a1
         cases d2 : (s2.tmod 8 != 7)
         case true =>
          have hf := hS2.free
          go_upto_region 10 with fail
          have hS3 := hS2.put 1 (.int .i64 (wrap64 ((IntKind.u64.wrap s2).tmod 2)))
          have ho3 := World.ownsRow.kept ho2 (put_grown w2 q 1 (.int .i64 (wrap64 ((IntKind.u64.wrap s2).tmod 2)))) (owns_far hoq.out)
          have hB3 := hB2.setCell (show w.heap.size ≤ (⟨q, 1, none⟩ : Addr).block by show w.heap.size ≤ q; omega) (.int .i64 (wrap64 ((IntKind.u64.wrap s2).tmod 2)))
          simp at hS3
          generalize (w2.setCell ⟨q, 1, none⟩ (.int .i64 (wrap64 ((IntKind.u64.wrap s2).tmod 2)))) = w3 at *
          obtain ⟨t2, hu1, hu2⟩ : ∃ t, wrap64 ((IntKind.u64.wrap s2).tmod 2) = t ∧ Hid (I64 t) := ⟨_, rfl, Lib.hid (wrap_bd _)⟩
          rw [hu1] at hS3 ⊢
          clear hu1 hS2 ho2 hB2 a0 a1 hf
          have a0 := hS3.cell 0
          have a1 := hS3.cell 1
          simp at a0 a1
          have hsz3 := hB3.size
          go_wp2_with (at_builtin; refine wpList_append_own _ rfl _ _ 22 rfl w.heap.size 27 i0 (.agg #[.int .i64 0, .int .i64 0]) 2 16 Try.underlying22 hi hz0 hz1 hz2 rfl (by decide) _ _ _ rfl (ho3.alloc _) ⟨w3.heap.size, 0, none⟩ 1 1 [.int .i64 t1, .int .i64 t2] rfl rfl (World.news_of_block (cs := #[.int .i64 t1, .int .i64 t2]) (t := 27) (fr := (0, 0)) (heap_alloc_new w3 _)) (by simp [Value.oneCell']) (by unfold maxLen; omega) (by omega) (by simp; omega) ?_; intro v7 w7 hown7 hgrow7 hnil7)
          have hb7 : Below w.heap.size w w7 := (hB3.alloc hB3.size _).grown hgrow7 (by simp; omega) (owns_row ho3)
          have hn7 := Lib.hid (Nums.snoc hm.out ht2.out hu2.out)
          go_roundw
          case rel => exact ⟨k + 1, m ++ [(t1, t2)], by omega, by omega, by go_num, by rw [List.length_append, hml3.out]; rfl, by rw [flatS_snoc, List.length_append]; exact hown7, hn7, hb7⟩
          case measure => simp [intOf]; omega
         case false =>
          have hf := hS2.free
          go_upto_region 10 with fail
          clear a0 a1 hf
          have a0 := hS2.cell 0
          have a1 := hS2.cell 1
          simp at a0 a1
          have hsz3 := hB2.size
          go_wp2_with (at_builtin; refine wpList_append_own _ rfl _ _ 22 rfl w.heap.size 27 i0 (.agg #[.int .i64 0, .int .i64 0]) 2 16 Try.underlying22 hi hz0 hz1 hz2 rfl (by decide) _ _ _ rfl (ho2.alloc _) ⟨w2.heap.size, 0, none⟩ 1 1 [.int .i64 t1, .int .i64 s2] rfl rfl (World.news_of_block (cs := #[.int .i64 t1, .int .i64 s2]) (t := 27) (fr := (0, 0)) (heap_alloc_new w2 _)) (by simp [Value.oneCell']) (by unfold maxLen; omega) (by omega) (by simp; omega) ?_; intro v7 w7 hown7 hgrow7 hnil7)
          have hb7 : Below w.heap.size w w7 := (hB2.alloc hB2.size _).grown hgrow7 (by simp; omega) (owns_row ho2)
          have hn7 := Lib.hid (Nums.snoc hm.out ht2.out hI2.out)
          go_roundw
          case rel => exact ⟨k + 1, m ++ [(t1, s2)], by omega, by omega, by go_num, by rw [List.length_append, hml3.out]; rfl, by rw [flatS_snoc, List.length_append]; exact hown7, hn7, hb7⟩
          case measure => simp [intOf]; omega
        
        case false =>
         have hf := hS.free
         go_upto_region 8 with fail
         clear a0 a1 hf
         have a0 := hS.cell 0
         have a1 := hS.cell 1
         simp at a0 a1
         cases d2 : (s2.tmod 8 != 7)
         case true =>
          have hf := hS.free
          go_upto_region 10 with fail
          have hS3 := hS.put 1 (.int .i64 (wrap64 ((IntKind.u64.wrap s2).tmod 2)))
          have ho3 := World.ownsRow.kept ho1 (put_grown w1 q 1 (.int .i64 (wrap64 ((IntKind.u64.wrap s2).tmod 2)))) (owns_far hoq.out)
          have hB3 := hB1.setCell (show w.heap.size ≤ (⟨q, 1, none⟩ : Addr).block by show w.heap.size ≤ q; omega) (.int .i64 (wrap64 ((IntKind.u64.wrap s2).tmod 2)))
          simp at hS3
          generalize (w1.setCell ⟨q, 1, none⟩ (.int .i64 (wrap64 ((IntKind.u64.wrap s2).tmod 2)))) = w3 at *
          obtain ⟨t2, hu1, hu2⟩ : ∃ t, wrap64 ((IntKind.u64.wrap s2).tmod 2) = t ∧ Hid (I64 t) := ⟨_, rfl, Lib.hid (wrap_bd _)⟩
          rw [hu1] at hS3 ⊢
          clear hu1 hS ho1 hB1 a0 a1 hf
          have a0 := hS3.cell 0
          have a1 := hS3.cell 1
          simp at a0 a1
          have hsz3 := hB3.size
          go_wp2_with (at_builtin; refine wpList_append_own _ rfl _ _ 22 rfl w.heap.size 27 i0 (.agg #[.int .i64 0, .int .i64 0]) 2 16 Try.underlying22 hi hz0 hz1 hz2 rfl (by decide) _ _ _ rfl (ho3.alloc _) ⟨w3.heap.size, 0, none⟩ 1 1 [.int .i64 s1, .int .i64 t2] rfl rfl (World.news_of_block (cs := #[.int .i64 s1, .int .i64 t2]) (t := 27) (fr := (0, 0)) (heap_alloc_new w3 _)) (by simp [Value.oneCell']) (by unfold maxLen; omega) (by omega) (by simp; omega) ?_; intro v7 w7 hown7 hgrow7 hnil7)
          have hb7 : Below w.heap.size w w7 := (hB3.alloc hB3.size _).grown hgrow7 (by simp; omega) (owns_row ho3)
          have hn7 := Lib.hid (Nums.snoc hm.out hI1.out hu2.out)
          go_roundw
          case rel => exact ⟨k + 1, m ++ [(s1, t2)], by omega, by omega, by go_num, by rw [List.length_append, hml3.out]; rfl, by rw [flatS_snoc, List.length_append]; exact hown7, hn7, hb7⟩
          case measure => simp [intOf]; omega
         case false =>
          have hf := hS.free
          go_upto_region 10 with fail
          clear a0 a1 hf
          have a0 := hS.cell 0
          have a1 := hS.cell 1
          simp at a0 a1
          have hsz3 := hB1.size
          go_wp2_with (at_builtin; refine wpList_append_own _ rfl _ _ 22 rfl w.heap.size 27 i0 (.agg #[.int .i64 0, .int .i64 0]) 2 16 Try.underlying22 hi hz0 hz1 hz2 rfl (by decide) _ _ _ rfl (ho1.alloc _) ⟨w1.heap.size, 0, none⟩ 1 1 [.int .i64 s1, .int .i64 s2] rfl rfl (World.news_of_block (cs := #[.int .i64 s1, .int .i64 s2]) (t := 27) (fr := (0, 0)) (heap_alloc_new w1 _)) (by simp [Value.oneCell']) (by unfold maxLen; omega) (by omega) (by simp; omega) ?_; intro v7 w7 hown7 hgrow7 hnil7)
          have hb7 : Below w.heap.size w w7 := (hB1.alloc hB1.size _).grown hgrow7 (by simp; omega) (owns_row ho1)
          have hn7 := Lib.hid (Nums.snoc hm.out hI1.out hI2.out)
          go_roundw
          case rel => exact ⟨k + 1, m ++ [(s1, s2)], by omega, by omega, by go_num, by rw [List.length_append, hml3.out]; rfl, by rw [flatS_snoc, List.length_append]; exact hown7, hn7, hb7⟩
          case measure => simp [intOf]; omega
      · have hR := Lib.hid (Row.of_owns (B := wr.heap.size) hown rfl (Nat.le_refl _))
        clear hown
        go_wp2
        go_ret
        exact ⟨⟨_, rfl, m, hR.out, hml2, hm.out⟩, hbw⟩
    · have hR := Lib.hid (Row.of_owns (B := wr.heap.size) hown rfl (Nat.le_refl _))
      clear hown
      go_wp2
      go_ret
      exact ⟨⟨_, rfl, m, hR.out, hml2, hm.out⟩, hbw⟩

end Go.Proofs.Ytkeijbefamlckaa.Route

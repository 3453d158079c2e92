import Derived.Test.YteclpblfleakhaaGreatDoorPkRouteLen

namespace Go.Proofs.YteclpblfleakhaaGreatDoor.Price
open Go.RowKit Go.Sort Go.Proofs.YteclpblfleakhaaGreatDoor.Mem Go.Proofs.YteclpblfleakhaaGreatDoor.Route Go.Proofs.YteclpblfleakhaaGreatDoor.When
set_option linter.unusedVariables false
theorem putL_nums {l : List (Int × Int)} {k : Nat} {s : Int × Int} (h : Nums l) (h1 : I64 s.1) (h2 : I64 s.2) : Nums (putL l k s) := by
 intro x hx
 unfold putL at hx
 rcases List.mem_append.1 hx with hx | hx
 · exact h x (List.mem_of_mem_take hx)
 · rcases List.mem_cons.1 hx with rfl | hx
   · exact ⟨h1, h2⟩
   · exact h x (List.mem_of_mem_drop hx)
set_option maxRecDepth 100000 in
set_option maxHeartbeats 4000000 in
theorem droute_from (w : World) (g : Nat) (sv : Value) (bs : List Int) (a b k : Int) (n : Nat) (lo : Int) (hlo : 0 ≤ lo ∧ lo ≤ 1000) (h : DraftAt w g sv bs a b k) (hk : 0 ≤ k ∧ k < 700000) (hn : n ≤ 6) :
 Calls Tryz.prog 15 #[.pointer (some ⟨g, 0, none⟩), .int .i64 lo, .int .i64 (lo + (n : Int))] w fun e w' =>
  (∃ u l, e = .returned u ∧ w'.ownsRow w.heap.size 82 2 u l.length (flatS l) ∧ l.length = 2 * n ∧ Nums l) ∧ DraftAt w' g sv bs a b (k + 2 * n) ∧ w.grownBy w' (some g) := by
 obtain ⟨i0, hi, hz0, hz1, hz2⟩ := info_parts info_stop
 have hgi := h.box.inside
 have h' := Lib.hid h
 clear h
 go_enter Tryz.func15, Tryz.ntmps15
 go_wp2
 go_loopw [7, 8] (fun u i wr => ∃ (j : Nat) (l : List (Int × Int)) (x : Option Addr) (cap : Nat), i = .int .i64 (lo + (j : Int)) ∧ j ≤ n ∧ u = .slice x (2 * j) cap ∧ Hid (l.length = 2 * j) ∧ wr.ownsRow w.heap.size 82 2 (.slice x (2 * j) cap) (2 * j) (flatS l) ∧ Hid (Nums l) ∧ DraftAt wr g sv bs a b (k + 2 * j) ∧ w.grownBy wr (some g)) (fun _ i _ => n - (intOf i - lo).toNat)
 case atStart => exact ⟨0, [], none, 0, by simp, Nat.zero_le _, rfl, Lib.hid rfl, World.ownsRow_nil _ _ _ _, Lib.hid (fun s hs => by cases hs), by simpa using h'.out, grown_refl _ _⟩
 case round =>
  obtain ⟨j, l, x, cap, rfl, hj, rfl, hll, hown, hsm, hD, hG⟩ := hrel
  clear h'
  by_cases hlt : j < n
  · have hlt2 : lo + (j : Int) < lo + (n : Int) := by omega
    obtain ⟨L, hL, hL12⟩ : ∃ L, 2 * j = L ∧ L ≤ 10 := ⟨_, rfl, by omega⟩
    have hnum := hL
    rw [hL] at hown hll ⊢
    have hjL : Hid (2 * j = L) := Lib.hid hL
    clear hL
    have hcall := next_any wr g sv bs a b (k + 2 * j) 3 hD (by omega) (by omega)
    have hown' := Lib.hid hown
    have hG' := Lib.hid hG
    have hws := hG.size
    have hparts := owns_parts hown
    clear hown hG hD hnum
    go_wp2_with fail
    refine hcall.mono ?_
    clear hcall
    rintro e w3 ⟨⟨r, rfl, hr0, hr1⟩, hD3, hg3⟩
    have hown3 := Lib.hid (owns_old hown'.out hg3 (fun r e => .inl (by cases e; omega)))
    have hG3 := Lib.hid (hG'.out.trans hg3)
    have hD3' := Lib.hid hD3
    have hs3 := hg3.size
    obtain ⟨K, hI, hKL⟩ : ∃ K : Nat, (L : Int) - min (L : Int) r = K ∧ K ≤ L := ⟨((L : Int) - min (L : Int) r).toNat, by omega, by omega⟩
    obtain ⟨I, hI1⟩ : ∃ I : Int, min (L : Int) r = I := ⟨_, rfl⟩
    rw [hI1] at hI
    have hI0 : 0 ≤ I := by omega
    have hI2 : I ≤ L := by omega
    clear hD3 hg3 hown'
    have hR3 := Lib.hid (Row.of_owns (B := w3.heap.size) hown3.out hll.out.symm (Nat.le_refl _))
    have hlt3 : (flatS (l.take K)).length = K * 2 := by rw [flatS_length, List.length_take, hll.out]; omega
    have hld3 : (flatS (l.drop K)).length = (L - K) * 2 := by rw [flatS_length, List.length_drop, hll.out]
    have hlt3' := Lib.hid hlt3
    have hld3' := Lib.hid hld3
    have hgw3 : w.heap.size ≤ w3.heap.size := by omega
    clear hlt3 hld3
    rcases hparts with ⟨rfl, rfl, rfl⟩ | ⟨qx, rfl, hLc⟩
    · skip
      obtain rfl : K = 0 := by omega
      have hm0 : min (0 : Int) r = 0 := by omega
      clear hI hI1 hI0 hI2
      go_upto_region 7 with (at_builtin; (refine wpList_append_plain rfl _ _ 28 rfl w3.heap.size 82 i0 (.agg #[.int .i64 0, .int .i64 0]) 2 16 Tryz.underlying28 hi hz0 hz1 hz2 rfl (by decide) _ _ _ rfl (owns_empty rfl (Nat.le_refl _)) _ 0 ⟨_, _, rfl⟩ (.inl rfl) (flatS (l.take 0)) rfl (by simpa using hlt3'.out) (fun ad c e => by cases e) flatS_one (by unfold maxLen; omega) (by omega) (by simp) ?_); intro v5 w5 hown5 hgrow5; rw [Nat.zero_add] at hown5; obtain ⟨x5, c5, rfl, _, _⟩ := owns_slice hown5)
      have hB5 : Below w3.heap.size w3 w5 := ((Below.refl _ _).alloc (Nat.le_refl _) _).grown hgrow5 (by simp) (fun r e => by cases e; exact Nat.le_refl _)
      have hown5' := Lib.hid hown5
      have hro5 := Lib.hid (owns_row hown5)
      have hs5 := hB5.size
      clear hown5 hgrow5
      go_upto_region 8 with (at_builtin; refine wpList_append_own _ rfl _ _ 28 rfl w3.heap.size 82 i0 (.agg #[.int .i64 0, .int .i64 0]) 2 16 Tryz.underlying28 hi hz0 hz1 hz2 rfl (by decide) _ _ _ rfl (hown5'.out.alloc _) ⟨w5.heap.size, 0, none⟩ 1 1 [.int .i64 (lo + (j : Int)), .int .i64 0] rfl rfl (World.news_of_block (cs := #[.int .i64 (lo + (j : Int)), .int .i64 0]) (t := 82) (fr := (0, 0)) (heap_alloc_new w5 _)) (by simp [Value.oneCell']) (by unfold maxLen; omega) (by omega) (by simp; omega) ?_; intro v7 w7 hown7 hgrow7 hnil7; obtain ⟨x7, c7, rfl, _, _⟩ := owns_slice hown7)
      have hB7 : Below w3.heap.size w3 w7 := (hB5.alloc hs5 _).grown hgrow7 (by simp; omega) (fun r e => hro5.out r e)
      have hown7' := Lib.hid hown7
      have hro7 := Lib.hid (owns_row hown7)
      have hs7 := hB7.size
      have hR7 := Lib.hid (hR3.out.keep hB7 (Nat.le_refl _))
      clear hown7 hgrow7 hnil7
      go_upto_region 9 with (at_builtin; (refine wpList_append_plain rfl _ _ 28 rfl w3.heap.size 82 i0 (.agg #[.int .i64 0, .int .i64 0]) 2 16 Tryz.underlying28 hi hz0 hz1 hz2 rfl (by decide) _ _ _ rfl hown7'.out _ (0 - 0) ⟨_, _, rfl⟩ (.inl rfl) (flatS (l.drop 0)) rfl (by simpa using hld3'.out) (fun ad c e => by cases e) flatS_one (by unfold maxLen; omega) (by omega) (by omega) ?_); intro v8 w8 hown8 hgrow8; rw [show 0 + 1 + (0 - 0) = 0 + 1 by omega] at hown8; obtain ⟨x8, c8, rfl, _, _⟩ := owns_slice hown8)
      have hB8 : Below w3.heap.size w3 w8 := hB7.grown hgrow8 hs7 (fun r e => hro7.out r e)
      obtain ⟨l8, hl8⟩ : ∃ l8, putL l 0 ((lo + (j : Int)), 0) = l8 := ⟨_, rfl⟩
      have hown8' : Hid (w8.ownsRow w3.heap.size 82 2 (.slice x8 (0 + 1) c8) (0 + 1) (flatS l8)) := Lib.hid (by rw [← hl8, flat_put]; exact hown8)
      have hll8 : Hid (l8.length = 0 + 1) := Lib.hid (by rw [← hl8, putL_length, hll.out])
      have hsm8 : Hid (Nums l8) := Lib.hid (by rw [← hl8]; exact putL_nums hsm.out ⟨by omega, by omega⟩ ⟨by omega, by omega⟩)
      have hs8 := hB8.size
      have hD8 := hD3'.out.keep hB8 (by omega)
      have hcall := next_any w8 g sv bs a b (k + 2 * j + 1) (0 + 1 - 0) hD8 (by omega) (by omega)
      have hG8 := Lib.hid (grown_below2 hG3.out hB8)
      clear hown8 hgrow8 hl8 hD8 hB5 hB7 hB8 hR7 hR3 hown5' hown7' hro5 hro7
      go_wp2_with fail
      refine hcall.mono ?_
      clear hcall
      rintro e w9 ⟨⟨r2, rfl, hr20, hr21⟩, hD9, hg9⟩
      obtain ⟨J, hJ, hJL⟩ : ∃ J : Nat, (1 : Int) + r2 = J ∧ J ≤ 0 + 1 := ⟨((1 : Int) + r2).toNat, by omega, by omega⟩
      have hKJ : Hid (0 + 1 ≤ J) := Lib.hid (by omega)
      have hown9 := Lib.hid (owns_old hown8'.out hg9 (fun r e => .inl (by cases e; omega)))
      have hG9 := Lib.hid (hG8.out.trans hg9)
      have hs9 := hg9.size
      have hD9' := Lib.hid hD9
      have hR9 := Lib.hid (Row.of_owns (B := w9.heap.size) hown9.out hll8.out.symm (Nat.le_refl _))
      have hparts8 := owns_parts hown9.out
      obtain ⟨qy, rfl, hLc8⟩ : ∃ q : Nat, x8 = some ⟨q, 0, none⟩ ∧ 0 + 1 ≤ c8 := by
       rcases hparts8 with ⟨_, h0, _⟩ | h0
       · omega
       · exact h0
      have hqy : qy < w9.heap.size := by
       have := own_lt hown9.out qy rfl
       exact this
      have hltJ : Hid ((flatS (l8.take J)).length = J * 2) := Lib.hid (by rw [flatS_length, List.length_take, hll8.out]; omega)
      have hldJ : Hid ((flatS (l8.drop J)).length = (0 + 1 - J) * 2) := Lib.hid (by rw [flatS_length, List.length_drop, hll8.out])
      have hJc : J ≤ c8 := by omega
      clear hparts8 hown8' hD9 hg9 hr20 hr21
      go_upto_region 11 with (at_builtin; refine wpList_append_plain rfl _ _ 28 rfl w9.heap.size 82 i0 (.agg #[.int .i64 0, .int .i64 0]) 2 16 Tryz.underlying28 hi hz0 hz1 hz2 rfl (by decide) _ _ _ rfl (owns_empty rfl (Nat.le_refl _)) _ J ⟨_, _, rfl⟩ (.inr ⟨_, _, _, rfl⟩) (flatS (l8.take J)) rfl hltJ.out (fun ad c e i u hi => by cases e; exact ((Below.refl _ _).alloc (Nat.le_refl _) _ : Below w9.heap.size w9 _).cell (p := (⟨qy, 0, none⟩ : Addr).add i) (by rw [add_at]; exact hqy) |>.trans (takeNews hR9.out hll8.out hJL _ rfl i u hi)) flatS_one (by unfold maxLen; omega) (by omega) (by simp) ?_; intro v10 w10 hown10 hgrow10; rw [Nat.zero_add] at hown10; obtain ⟨x10, c10, rfl, _, _⟩ := owns_slice hown10)
      have hB10 : Below w9.heap.size w9 w10 := ((Below.refl _ _).alloc (Nat.le_refl _) _).grown hgrow10 (by simp) (fun r e => by cases e; exact Nat.le_refl _)
      have hown10' := Lib.hid hown10
      have hro10 := Lib.hid (owns_row hown10)
      have hs10 := hB10.size
      clear hown10 hgrow10
      go_upto_region 12 with (at_builtin; refine wpList_append_own _ rfl _ _ 28 rfl w9.heap.size 82 i0 (.agg #[.int .i64 0, .int .i64 0]) 2 16 Tryz.underlying28 hi hz0 hz1 hz2 rfl (by decide) _ _ _ rfl (hown10'.out.alloc _) ⟨w10.heap.size, 0, none⟩ 1 1 [.int .i64 (lo + (j : Int)), .int .i64 1] rfl rfl (World.news_of_block (cs := #[.int .i64 (lo + (j : Int)), .int .i64 1]) (t := 82) (fr := (0, 0)) (heap_alloc_new w10 _)) (by simp [Value.oneCell']) (by unfold maxLen; omega) (by omega) (by simp; omega) ?_; intro v11 w11 hown11 hgrow11 hnil11; obtain ⟨x11, c11, rfl, _, _⟩ := owns_slice hown11)
      have hB11 : Below w9.heap.size w9 w11 := (hB10.alloc hs10 _).grown hgrow11 (by simp; omega) (fun r e => hro10.out r e)
      have hown11' := Lib.hid hown11
      have hro11 := Lib.hid (owns_row hown11)
      have hs11 := hB11.size
      have hR11 := Lib.hid (hR9.out.keep hB11 (Nat.le_refl _))
      clear hown11 hgrow11 hnil11
      by_cases hcJ : c8 = J
      · have hdropJ : Hid (flatS (l8.drop J) = []) := Lib.hid (by rw [List.drop_eq_nil_of_le (by rw [hll8.out]; omega)]; rfl)
        have hJe : J = 0 + 1 := by omega
        have hJe2 : c8 = 0 + 1 := by omega
        subst hJe
        subst hJe2
        go_wp2_with (at_builtin; refine wpList_append_plain rfl _ _ 28 rfl w9.heap.size 82 i0 (.agg #[.int .i64 0, .int .i64 0]) 2 16 Tryz.underlying28 hi hz0 hz1 hz2 rfl (by decide) _ _ _ rfl hown11'.out _ 0 ⟨_, _, rfl⟩ (.inr ⟨_, _, _, rfl⟩) (flatS (l8.drop (0 + 1))) rfl (by simpa using hldJ.out) (fun ad c e i u hi => by rw [hdropJ.out] at hi; cases hi) flatS_one (by unfold maxLen; omega) (by omega) (by omega) ?_; intro v12 w12 hown12 hgrow12; rw [show (0 + 1) + 1 + 0 = 2 * (j + 1) by have := hjL.out; omega] at hown12; obtain ⟨x12, c12, rfl, _, _⟩ := owns_slice hown12)
        have hB12 : Below w9.heap.size w9 w12 := hB11.grown hgrow12 hs11 (fun r e => hro11.out r e)
        have hD12 := hD9'.out.keep hB12 (by omega)
        have hG12 := grown_below2 hG9.out hB12
        have hfin : Hid (w12.ownsRow w.heap.size 82 2 (.slice x12 (2 * (j + 1)) c12) (2 * (j + 1)) (flatS (putL l8 (0 + 1) ((lo + (j : Int)), 1)))) := Lib.hid (by rw [flat_put]; exact owns_more hown12 (by omega))
        have hlf : Hid ((putL l8 (0 + 1) ((lo + (j : Int)), 1)).length = 2 * (j + 1)) := Lib.hid (by rw [putL_length, hll8.out]; have := hjL.out; omega)
        have hD12' := Lib.hid hD12
        have hG12' := Lib.hid hG12
        clear hown12 hgrow12 hB12 hD12 hG12
        go_roundw
        case rel =>
         refine ⟨j + 1, putL l8 (0 + 1) ((lo + (j : Int)), 1), x12, c12, by go_num, hlt, rfl, hlf, hfin.out, Lib.hid (putL_nums hsm8.out ⟨by omega, by omega⟩ ⟨by omega, by omega⟩), ?_, hG12'.out⟩
         have := hD12'.out
         rw [show k + 2 * (j : Int) + 1 + 1 = k + 2 * ((j + 1 : Nat) : Int) by omega] at this
         exact this
        case measure => simp [intOf]; omega
      · skip
        go_wp2_with (at_builtin; refine wpList_append_plain rfl _ _ 28 rfl w9.heap.size 82 i0 (.agg #[.int .i64 0, .int .i64 0]) 2 16 Tryz.underlying28 hi hz0 hz1 hz2 rfl (by decide) _ _ _ rfl hown11'.out _ (0 + 1 - J) ⟨_, _, rfl⟩ (.inr ⟨_, _, _, rfl⟩) (flatS (l8.drop J)) rfl hldJ.out (fun ad c e i u hi => by cases e; exact dropNews hR11.out hll8.out hJL _ (by rw [if_neg hcJ, Option.map_some, add_at, Nat.zero_add]) i u hi) flatS_one (by unfold maxLen; omega) (by omega) (by omega) ?_; intro v12 w12 hown12 hgrow12; rw [show J + 1 + (0 + 1 - J) = 2 * (j + 1) by have := hjL.out; omega] at hown12; obtain ⟨x12, c12, rfl, _, _⟩ := owns_slice hown12)
        have hB12 : Below w9.heap.size w9 w12 := hB11.grown hgrow12 hs11 (fun r e => hro11.out r e)
        have hD12 := hD9'.out.keep hB12 (by omega)
        have hG12 := grown_below2 hG9.out hB12
        have hfin : Hid (w12.ownsRow w.heap.size 82 2 (.slice x12 (2 * (j + 1)) c12) (2 * (j + 1)) (flatS (putL l8 J ((lo + (j : Int)), 1)))) := Lib.hid (by rw [flat_put]; exact owns_more hown12 (by omega))
        have hlf : Hid ((putL l8 J ((lo + (j : Int)), 1)).length = 2 * (j + 1)) := Lib.hid (by rw [putL_length, hll8.out]; have := hjL.out; omega)
        have hD12' := Lib.hid hD12
        have hG12' := Lib.hid hG12
        clear hown12 hgrow12 hB12 hD12 hG12
        go_roundw
        case rel =>
         refine ⟨j + 1, putL l8 J ((lo + (j : Int)), 1), x12, c12, by go_num, hlt, rfl, hlf, hfin.out, Lib.hid (putL_nums hsm8.out ⟨by omega, by omega⟩ ⟨by omega, by omega⟩), ?_, hG12'.out⟩
         have := hD12'.out
         rw [show k + 2 * (j : Int) + 1 + 1 = k + 2 * ((j + 1 : Nat) : Int) by omega] at this
         exact this
        case measure => simp [intOf]; omega
    · have hqx : qx < w3.heap.size := by
       have := own_lt hown3.out qx rfl
       exact this
      have hKc : K ≤ cap := by omega
      by_cases hcK : cap = K
      · have hKe1 : L = K := by omega
        subst hKe1
        have hKe2 : L = cap := by omega
        subst hKe2
        have hdrop : Hid (flatS (l.drop L) = []) := Lib.hid (by rw [List.drop_eq_nil_of_le (by rw [hll.out]; omega)]; rfl)
        go_upto_region 7 with (at_builtin; (refine wpList_append_plain rfl _ _ 28 rfl w3.heap.size 82 i0 (.agg #[.int .i64 0, .int .i64 0]) 2 16 Tryz.underlying28 hi hz0 hz1 hz2 rfl (by decide) _ _ _ rfl (owns_empty rfl (Nat.le_refl _)) _ L ⟨_, _, rfl⟩ (.inr ⟨_, _, _, rfl⟩) (flatS (l.take L)) rfl (by simpa using hlt3'.out) (fun ad c e j u hj => by cases e; exact ((Below.refl _ _).alloc (Nat.le_refl _) _ : Below w3.heap.size w3 _).cell (p := (⟨qx, 0, none⟩ : Addr).add j) (by rw [add_at]; exact hqx) |>.trans (takeNews hR3.out hll.out hKL _ rfl j u hj)) flatS_one (by unfold maxLen; omega) (by omega) (by simp) ?_); intro v5 w5 hown5 hgrow5; rw [Nat.zero_add] at hown5; obtain ⟨x5, c5, rfl, _, _⟩ := owns_slice hown5)
        have hB5 : Below w3.heap.size w3 w5 := ((Below.refl _ _).alloc (Nat.le_refl _) _).grown hgrow5 (by simp) (fun r e => by cases e; exact Nat.le_refl _)
        have hown5' := Lib.hid hown5
        have hro5 := Lib.hid (owns_row hown5)
        have hs5 := hB5.size
        clear hown5 hgrow5
        go_upto_region 8 with (at_builtin; refine wpList_append_own _ rfl _ _ 28 rfl w3.heap.size 82 i0 (.agg #[.int .i64 0, .int .i64 0]) 2 16 Tryz.underlying28 hi hz0 hz1 hz2 rfl (by decide) _ _ _ rfl (hown5'.out.alloc _) ⟨w5.heap.size, 0, none⟩ 1 1 [.int .i64 (lo + (j : Int)), .int .i64 0] rfl rfl (World.news_of_block (cs := #[.int .i64 (lo + (j : Int)), .int .i64 0]) (t := 82) (fr := (0, 0)) (heap_alloc_new w5 _)) (by simp [Value.oneCell']) (by unfold maxLen; omega) (by omega) (by simp; omega) ?_; intro v7 w7 hown7 hgrow7 hnil7; obtain ⟨x7, c7, rfl, _, _⟩ := owns_slice hown7)
        have hB7 : Below w3.heap.size w3 w7 := (hB5.alloc hs5 _).grown hgrow7 (by simp; omega) (fun r e => hro5.out r e)
        have hown7' := Lib.hid hown7
        have hro7 := Lib.hid (owns_row hown7)
        have hs7 := hB7.size
        have hR7 := Lib.hid (hR3.out.keep hB7 (Nat.le_refl _))
        clear hown7 hgrow7 hnil7
        go_upto_region 9 with (at_builtin; (refine wpList_append_plain rfl _ _ 28 rfl w3.heap.size 82 i0 (.agg #[.int .i64 0, .int .i64 0]) 2 16 Tryz.underlying28 hi hz0 hz1 hz2 rfl (by decide) _ _ _ rfl hown7'.out _ 0 ⟨_, _, rfl⟩ (.inr ⟨_, _, _, rfl⟩) (flatS (l.drop L)) rfl (by simpa using hld3'.out) (fun ad c e j u hj => by rw [hdrop.out] at hj; cases hj) flatS_one (by unfold maxLen; omega) (by omega) (by omega) ?_); intro v8 w8 hown8 hgrow8; rw [show L + 1 + 0 = L + 1 by omega] at hown8; obtain ⟨x8, c8, rfl, _, _⟩ := owns_slice hown8)
        have hB8 : Below w3.heap.size w3 w8 := hB7.grown hgrow8 hs7 (fun r e => hro7.out r e)
        obtain ⟨l8, hl8⟩ : ∃ l8, putL l L ((lo + (j : Int)), 0) = l8 := ⟨_, rfl⟩
        have hown8' : Hid (w8.ownsRow w3.heap.size 82 2 (.slice x8 (L + 1) c8) (L + 1) (flatS l8)) := Lib.hid (by rw [← hl8, flat_put]; exact hown8)
        have hll8 : Hid (l8.length = L + 1) := Lib.hid (by rw [← hl8, putL_length, hll.out])
        have hsm8 : Hid (Nums l8) := Lib.hid (by rw [← hl8]; exact putL_nums hsm.out ⟨by omega, by omega⟩ ⟨by omega, by omega⟩)
        have hs8 := hB8.size
        have hD8 := hD3'.out.keep hB8 (by omega)
        have hcall := next_any w8 g sv bs a b (k + 2 * j + 1) (L + 1 - L) hD8 (by omega) (by omega)
        have hG8 := Lib.hid (grown_below2 hG3.out hB8)
        clear hown8 hgrow8 hl8 hD8 hB5 hB7 hB8 hR7 hR3 hown5' hown7' hro5 hro7
        go_wp2_with fail
        refine hcall.mono ?_
        clear hcall
        rintro e w9 ⟨⟨r2, rfl, hr20, hr21⟩, hD9, hg9⟩
        obtain ⟨J, hJ, hJL⟩ : ∃ J : Nat, (L : Int) + 1 + r2 = J ∧ J ≤ L + 1 := ⟨(((L : Int) + 1) + r2).toNat, by omega, by omega⟩
        have hKJ : Hid (L + 1 ≤ J) := Lib.hid (by omega)
        have hown9 := Lib.hid (owns_old hown8'.out hg9 (fun r e => .inl (by cases e; omega)))
        have hG9 := Lib.hid (hG8.out.trans hg9)
        have hs9 := hg9.size
        have hD9' := Lib.hid hD9
        have hR9 := Lib.hid (Row.of_owns (B := w9.heap.size) hown9.out hll8.out.symm (Nat.le_refl _))
        have hparts8 := owns_parts hown9.out
        obtain ⟨qy, rfl, hLc8⟩ : ∃ q : Nat, x8 = some ⟨q, 0, none⟩ ∧ L + 1 ≤ c8 := by
         rcases hparts8 with ⟨_, h0, _⟩ | h0
         · omega
         · exact h0
        have hqy : qy < w9.heap.size := by
         have := own_lt hown9.out qy rfl
         exact this
        have hltJ : Hid ((flatS (l8.take J)).length = J * 2) := Lib.hid (by rw [flatS_length, List.length_take, hll8.out]; omega)
        have hldJ : Hid ((flatS (l8.drop J)).length = (L + 1 - J) * 2) := Lib.hid (by rw [flatS_length, List.length_drop, hll8.out])
        have hJc : J ≤ c8 := by omega
        clear hparts8 hown8' hD9 hg9 hr20 hr21
        go_upto_region 11 with (at_builtin; refine wpList_append_plain rfl _ _ 28 rfl w9.heap.size 82 i0 (.agg #[.int .i64 0, .int .i64 0]) 2 16 Tryz.underlying28 hi hz0 hz1 hz2 rfl (by decide) _ _ _ rfl (owns_empty rfl (Nat.le_refl _)) _ J ⟨_, _, rfl⟩ (.inr ⟨_, _, _, rfl⟩) (flatS (l8.take J)) rfl hltJ.out (fun ad c e i u hi => by cases e; exact ((Below.refl _ _).alloc (Nat.le_refl _) _ : Below w9.heap.size w9 _).cell (p := (⟨qy, 0, none⟩ : Addr).add i) (by rw [add_at]; exact hqy) |>.trans (takeNews hR9.out hll8.out hJL _ rfl i u hi)) flatS_one (by unfold maxLen; omega) (by omega) (by simp) ?_; intro v10 w10 hown10 hgrow10; rw [Nat.zero_add] at hown10; obtain ⟨x10, c10, rfl, _, _⟩ := owns_slice hown10)
        have hB10 : Below w9.heap.size w9 w10 := ((Below.refl _ _).alloc (Nat.le_refl _) _).grown hgrow10 (by simp) (fun r e => by cases e; exact Nat.le_refl _)
        have hown10' := Lib.hid hown10
        have hro10 := Lib.hid (owns_row hown10)
        have hs10 := hB10.size
        clear hown10 hgrow10
        go_upto_region 12 with (at_builtin; refine wpList_append_own _ rfl _ _ 28 rfl w9.heap.size 82 i0 (.agg #[.int .i64 0, .int .i64 0]) 2 16 Tryz.underlying28 hi hz0 hz1 hz2 rfl (by decide) _ _ _ rfl (hown10'.out.alloc _) ⟨w10.heap.size, 0, none⟩ 1 1 [.int .i64 (lo + (j : Int)), .int .i64 1] rfl rfl (World.news_of_block (cs := #[.int .i64 (lo + (j : Int)), .int .i64 1]) (t := 82) (fr := (0, 0)) (heap_alloc_new w10 _)) (by simp [Value.oneCell']) (by unfold maxLen; omega) (by omega) (by simp; omega) ?_; intro v11 w11 hown11 hgrow11 hnil11; obtain ⟨x11, c11, rfl, _, _⟩ := owns_slice hown11)
        have hB11 : Below w9.heap.size w9 w11 := (hB10.alloc hs10 _).grown hgrow11 (by simp; omega) (fun r e => hro10.out r e)
        have hown11' := Lib.hid hown11
        have hro11 := Lib.hid (owns_row hown11)
        have hs11 := hB11.size
        have hR11 := Lib.hid (hR9.out.keep hB11 (Nat.le_refl _))
        clear hown11 hgrow11 hnil11
        by_cases hcJ : c8 = J
        · have hdropJ : Hid (flatS (l8.drop J) = []) := Lib.hid (by rw [List.drop_eq_nil_of_le (by rw [hll8.out]; omega)]; rfl)
          have hJe : J = L + 1 := by omega
          have hJe2 : c8 = L + 1 := by omega
          subst hJe
          subst hJe2
          go_wp2_with (at_builtin; refine wpList_append_plain rfl _ _ 28 rfl w9.heap.size 82 i0 (.agg #[.int .i64 0, .int .i64 0]) 2 16 Tryz.underlying28 hi hz0 hz1 hz2 rfl (by decide) _ _ _ rfl hown11'.out _ 0 ⟨_, _, rfl⟩ (.inr ⟨_, _, _, rfl⟩) (flatS (l8.drop (L + 1))) rfl (by simpa using hldJ.out) (fun ad c e i u hi => by rw [hdropJ.out] at hi; cases hi) flatS_one (by unfold maxLen; omega) (by omega) (by omega) ?_; intro v12 w12 hown12 hgrow12; rw [show (L + 1) + 1 + 0 = 2 * (j + 1) by have := hjL.out; omega] at hown12; obtain ⟨x12, c12, rfl, _, _⟩ := owns_slice hown12)
          have hB12 : Below w9.heap.size w9 w12 := hB11.grown hgrow12 hs11 (fun r e => hro11.out r e)
          have hD12 := hD9'.out.keep hB12 (by omega)
          have hG12 := grown_below2 hG9.out hB12
          have hfin : Hid (w12.ownsRow w.heap.size 82 2 (.slice x12 (2 * (j + 1)) c12) (2 * (j + 1)) (flatS (putL l8 (L + 1) ((lo + (j : Int)), 1)))) := Lib.hid (by rw [flat_put]; exact owns_more hown12 (by omega))
          have hlf : Hid ((putL l8 (L + 1) ((lo + (j : Int)), 1)).length = 2 * (j + 1)) := Lib.hid (by rw [putL_length, hll8.out]; have := hjL.out; omega)
          have hD12' := Lib.hid hD12
          have hG12' := Lib.hid hG12
          clear hown12 hgrow12 hB12 hD12 hG12
          go_roundw
          case rel =>
           refine ⟨j + 1, putL l8 (L + 1) ((lo + (j : Int)), 1), x12, c12, by go_num, hlt, rfl, hlf, hfin.out, Lib.hid (putL_nums hsm8.out ⟨by omega, by omega⟩ ⟨by omega, by omega⟩), ?_, hG12'.out⟩
           have := hD12'.out
           rw [show k + 2 * (j : Int) + 1 + 1 = k + 2 * ((j + 1 : Nat) : Int) by omega] at this
           exact this
          case measure => simp [intOf]; omega
        · skip
          go_wp2_with (at_builtin; refine wpList_append_plain rfl _ _ 28 rfl w9.heap.size 82 i0 (.agg #[.int .i64 0, .int .i64 0]) 2 16 Tryz.underlying28 hi hz0 hz1 hz2 rfl (by decide) _ _ _ rfl hown11'.out _ (L + 1 - J) ⟨_, _, rfl⟩ (.inr ⟨_, _, _, rfl⟩) (flatS (l8.drop J)) rfl hldJ.out (fun ad c e i u hi => by cases e; exact dropNews hR11.out hll8.out hJL _ (by rw [if_neg hcJ, Option.map_some, add_at, Nat.zero_add]) i u hi) flatS_one (by unfold maxLen; omega) (by omega) (by omega) ?_; intro v12 w12 hown12 hgrow12; rw [show J + 1 + (L + 1 - J) = 2 * (j + 1) by have := hjL.out; omega] at hown12; obtain ⟨x12, c12, rfl, _, _⟩ := owns_slice hown12)
          have hB12 : Below w9.heap.size w9 w12 := hB11.grown hgrow12 hs11 (fun r e => hro11.out r e)
          have hD12 := hD9'.out.keep hB12 (by omega)
          have hG12 := grown_below2 hG9.out hB12
          have hfin : Hid (w12.ownsRow w.heap.size 82 2 (.slice x12 (2 * (j + 1)) c12) (2 * (j + 1)) (flatS (putL l8 J ((lo + (j : Int)), 1)))) := Lib.hid (by rw [flat_put]; exact owns_more hown12 (by omega))
          have hlf : Hid ((putL l8 J ((lo + (j : Int)), 1)).length = 2 * (j + 1)) := Lib.hid (by rw [putL_length, hll8.out]; have := hjL.out; omega)
          have hD12' := Lib.hid hD12
          have hG12' := Lib.hid hG12
          clear hown12 hgrow12 hB12 hD12 hG12
          go_roundw
          case rel =>
           refine ⟨j + 1, putL l8 J ((lo + (j : Int)), 1), x12, c12, by go_num, hlt, rfl, hlf, hfin.out, Lib.hid (putL_nums hsm8.out ⟨by omega, by omega⟩ ⟨by omega, by omega⟩), ?_, hG12'.out⟩
           have := hD12'.out
           rw [show k + 2 * (j : Int) + 1 + 1 = k + 2 * ((j + 1 : Nat) : Int) by omega] at this
           exact this
          case measure => simp [intOf]; omega
      · skip
        go_upto_region 7 with (at_builtin; (refine wpList_append_plain rfl _ _ 28 rfl w3.heap.size 82 i0 (.agg #[.int .i64 0, .int .i64 0]) 2 16 Tryz.underlying28 hi hz0 hz1 hz2 rfl (by decide) _ _ _ rfl (owns_empty rfl (Nat.le_refl _)) _ K ⟨_, _, rfl⟩ (.inr ⟨_, _, _, rfl⟩) (flatS (l.take K)) rfl (by simpa using hlt3'.out) (fun ad c e j u hj => by cases e; exact ((Below.refl _ _).alloc (Nat.le_refl _) _ : Below w3.heap.size w3 _).cell (p := (⟨qx, 0, none⟩ : Addr).add j) (by rw [add_at]; exact hqx) |>.trans (takeNews hR3.out hll.out hKL _ rfl j u hj)) flatS_one (by unfold maxLen; omega) (by omega) (by simp) ?_); intro v5 w5 hown5 hgrow5; rw [Nat.zero_add] at hown5; obtain ⟨x5, c5, rfl, _, _⟩ := owns_slice hown5)
        have hB5 : Below w3.heap.size w3 w5 := ((Below.refl _ _).alloc (Nat.le_refl _) _).grown hgrow5 (by simp) (fun r e => by cases e; exact Nat.le_refl _)
        have hown5' := Lib.hid hown5
        have hro5 := Lib.hid (owns_row hown5)
        have hs5 := hB5.size
        clear hown5 hgrow5
        go_upto_region 8 with (at_builtin; refine wpList_append_own _ rfl _ _ 28 rfl w3.heap.size 82 i0 (.agg #[.int .i64 0, .int .i64 0]) 2 16 Tryz.underlying28 hi hz0 hz1 hz2 rfl (by decide) _ _ _ rfl (hown5'.out.alloc _) ⟨w5.heap.size, 0, none⟩ 1 1 [.int .i64 (lo + (j : Int)), .int .i64 0] rfl rfl (World.news_of_block (cs := #[.int .i64 (lo + (j : Int)), .int .i64 0]) (t := 82) (fr := (0, 0)) (heap_alloc_new w5 _)) (by simp [Value.oneCell']) (by unfold maxLen; omega) (by omega) (by simp; omega) ?_; intro v7 w7 hown7 hgrow7 hnil7; obtain ⟨x7, c7, rfl, _, _⟩ := owns_slice hown7)
        have hB7 : Below w3.heap.size w3 w7 := (hB5.alloc hs5 _).grown hgrow7 (by simp; omega) (fun r e => hro5.out r e)
        have hown7' := Lib.hid hown7
        have hro7 := Lib.hid (owns_row hown7)
        have hs7 := hB7.size
        have hR7 := Lib.hid (hR3.out.keep hB7 (Nat.le_refl _))
        clear hown7 hgrow7 hnil7
        go_upto_region 9 with (at_builtin; (refine wpList_append_plain rfl _ _ 28 rfl w3.heap.size 82 i0 (.agg #[.int .i64 0, .int .i64 0]) 2 16 Tryz.underlying28 hi hz0 hz1 hz2 rfl (by decide) _ _ _ rfl hown7'.out _ (L - K) ⟨_, _, rfl⟩ (.inr ⟨_, _, _, rfl⟩) (flatS (l.drop K)) rfl (by simpa using hld3'.out) (fun ad c e j u hj => by cases e; exact dropNews hR7.out hll.out hKL _ (by rw [if_neg hcK, Option.map_some, add_at, Nat.zero_add]) j u hj) flatS_one (by unfold maxLen; omega) (by omega) (by omega) ?_); intro v8 w8 hown8 hgrow8; rw [show K + 1 + (L - K) = L + 1 by omega] at hown8; obtain ⟨x8, c8, rfl, _, _⟩ := owns_slice hown8)
        have hB8 : Below w3.heap.size w3 w8 := hB7.grown hgrow8 hs7 (fun r e => hro7.out r e)
        obtain ⟨l8, hl8⟩ : ∃ l8, putL l K ((lo + (j : Int)), 0) = l8 := ⟨_, rfl⟩
        have hown8' : Hid (w8.ownsRow w3.heap.size 82 2 (.slice x8 (L + 1) c8) (L + 1) (flatS l8)) := Lib.hid (by rw [← hl8, flat_put]; exact hown8)
        have hll8 : Hid (l8.length = L + 1) := Lib.hid (by rw [← hl8, putL_length, hll.out])
        have hsm8 : Hid (Nums l8) := Lib.hid (by rw [← hl8]; exact putL_nums hsm.out ⟨by omega, by omega⟩ ⟨by omega, by omega⟩)
        have hs8 := hB8.size
        have hD8 := hD3'.out.keep hB8 (by omega)
        have hcall := next_any w8 g sv bs a b (k + 2 * j + 1) (L + 1 - K) hD8 (by omega) (by omega)
        have hG8 := Lib.hid (grown_below2 hG3.out hB8)
        clear hown8 hgrow8 hl8 hD8 hB5 hB7 hB8 hR7 hR3 hown5' hown7' hro5 hro7
        go_wp2_with fail
        refine hcall.mono ?_
        clear hcall
        rintro e w9 ⟨⟨r2, rfl, hr20, hr21⟩, hD9, hg9⟩
        obtain ⟨J, hJ, hJL⟩ : ∃ J : Nat, (K : Int) + 1 + r2 = J ∧ J ≤ L + 1 := ⟨(((K : Int) + 1) + r2).toNat, by omega, by omega⟩
        have hKJ : Hid (K + 1 ≤ J) := Lib.hid (by omega)
        have hown9 := Lib.hid (owns_old hown8'.out hg9 (fun r e => .inl (by cases e; omega)))
        have hG9 := Lib.hid (hG8.out.trans hg9)
        have hs9 := hg9.size
        have hD9' := Lib.hid hD9
        have hR9 := Lib.hid (Row.of_owns (B := w9.heap.size) hown9.out hll8.out.symm (Nat.le_refl _))
        have hparts8 := owns_parts hown9.out
        obtain ⟨qy, rfl, hLc8⟩ : ∃ q : Nat, x8 = some ⟨q, 0, none⟩ ∧ L + 1 ≤ c8 := by
         rcases hparts8 with ⟨_, h0, _⟩ | h0
         · omega
         · exact h0
        have hqy : qy < w9.heap.size := by
         have := own_lt hown9.out qy rfl
         exact this
        have hltJ : Hid ((flatS (l8.take J)).length = J * 2) := Lib.hid (by rw [flatS_length, List.length_take, hll8.out]; omega)
        have hldJ : Hid ((flatS (l8.drop J)).length = (L + 1 - J) * 2) := Lib.hid (by rw [flatS_length, List.length_drop, hll8.out])
        have hJc : J ≤ c8 := by omega
        clear hparts8 hown8' hD9 hg9 hr20 hr21
        go_upto_region 11 with (at_builtin; refine wpList_append_plain rfl _ _ 28 rfl w9.heap.size 82 i0 (.agg #[.int .i64 0, .int .i64 0]) 2 16 Tryz.underlying28 hi hz0 hz1 hz2 rfl (by decide) _ _ _ rfl (owns_empty rfl (Nat.le_refl _)) _ J ⟨_, _, rfl⟩ (.inr ⟨_, _, _, rfl⟩) (flatS (l8.take J)) rfl hltJ.out (fun ad c e i u hi => by cases e; exact ((Below.refl _ _).alloc (Nat.le_refl _) _ : Below w9.heap.size w9 _).cell (p := (⟨qy, 0, none⟩ : Addr).add i) (by rw [add_at]; exact hqy) |>.trans (takeNews hR9.out hll8.out hJL _ rfl i u hi)) flatS_one (by unfold maxLen; omega) (by omega) (by simp) ?_; intro v10 w10 hown10 hgrow10; rw [Nat.zero_add] at hown10; obtain ⟨x10, c10, rfl, _, _⟩ := owns_slice hown10)
        have hB10 : Below w9.heap.size w9 w10 := ((Below.refl _ _).alloc (Nat.le_refl _) _).grown hgrow10 (by simp) (fun r e => by cases e; exact Nat.le_refl _)
        have hown10' := Lib.hid hown10
        have hro10 := Lib.hid (owns_row hown10)
        have hs10 := hB10.size
        clear hown10 hgrow10
        go_upto_region 12 with (at_builtin; refine wpList_append_own _ rfl _ _ 28 rfl w9.heap.size 82 i0 (.agg #[.int .i64 0, .int .i64 0]) 2 16 Tryz.underlying28 hi hz0 hz1 hz2 rfl (by decide) _ _ _ rfl (hown10'.out.alloc _) ⟨w10.heap.size, 0, none⟩ 1 1 [.int .i64 (lo + (j : Int)), .int .i64 1] rfl rfl (World.news_of_block (cs := #[.int .i64 (lo + (j : Int)), .int .i64 1]) (t := 82) (fr := (0, 0)) (heap_alloc_new w10 _)) (by simp [Value.oneCell']) (by unfold maxLen; omega) (by omega) (by simp; omega) ?_; intro v11 w11 hown11 hgrow11 hnil11; obtain ⟨x11, c11, rfl, _, _⟩ := owns_slice hown11)
        have hB11 : Below w9.heap.size w9 w11 := (hB10.alloc hs10 _).grown hgrow11 (by simp; omega) (fun r e => hro10.out r e)
        have hown11' := Lib.hid hown11
        have hro11 := Lib.hid (owns_row hown11)
        have hs11 := hB11.size
        have hR11 := Lib.hid (hR9.out.keep hB11 (Nat.le_refl _))
        clear hown11 hgrow11 hnil11
        by_cases hcJ : c8 = J
        · have hdropJ : Hid (flatS (l8.drop J) = []) := Lib.hid (by rw [List.drop_eq_nil_of_le (by rw [hll8.out]; omega)]; rfl)
          have hJe : J = L + 1 := by omega
          have hJe2 : c8 = L + 1 := by omega
          subst hJe
          subst hJe2
          go_wp2_with (at_builtin; refine wpList_append_plain rfl _ _ 28 rfl w9.heap.size 82 i0 (.agg #[.int .i64 0, .int .i64 0]) 2 16 Tryz.underlying28 hi hz0 hz1 hz2 rfl (by decide) _ _ _ rfl hown11'.out _ 0 ⟨_, _, rfl⟩ (.inr ⟨_, _, _, rfl⟩) (flatS (l8.drop (L + 1))) rfl (by simpa using hldJ.out) (fun ad c e i u hi => by rw [hdropJ.out] at hi; cases hi) flatS_one (by unfold maxLen; omega) (by omega) (by omega) ?_; intro v12 w12 hown12 hgrow12; rw [show (L + 1) + 1 + 0 = 2 * (j + 1) by have := hjL.out; omega] at hown12; obtain ⟨x12, c12, rfl, _, _⟩ := owns_slice hown12)
          have hB12 : Below w9.heap.size w9 w12 := hB11.grown hgrow12 hs11 (fun r e => hro11.out r e)
          have hD12 := hD9'.out.keep hB12 (by omega)
          have hG12 := grown_below2 hG9.out hB12
          have hfin : Hid (w12.ownsRow w.heap.size 82 2 (.slice x12 (2 * (j + 1)) c12) (2 * (j + 1)) (flatS (putL l8 (L + 1) ((lo + (j : Int)), 1)))) := Lib.hid (by rw [flat_put]; exact owns_more hown12 (by omega))
          have hlf : Hid ((putL l8 (L + 1) ((lo + (j : Int)), 1)).length = 2 * (j + 1)) := Lib.hid (by rw [putL_length, hll8.out]; have := hjL.out; omega)
          have hD12' := Lib.hid hD12
          have hG12' := Lib.hid hG12
          clear hown12 hgrow12 hB12 hD12 hG12
          go_roundw
          case rel =>
           refine ⟨j + 1, putL l8 (L + 1) ((lo + (j : Int)), 1), x12, c12, by go_num, hlt, rfl, hlf, hfin.out, Lib.hid (putL_nums hsm8.out ⟨by omega, by omega⟩ ⟨by omega, by omega⟩), ?_, hG12'.out⟩
           have := hD12'.out
           rw [show k + 2 * (j : Int) + 1 + 1 = k + 2 * ((j + 1 : Nat) : Int) by omega] at this
           exact this
          case measure => simp [intOf]; omega
        · skip
          go_wp2_with (at_builtin; refine wpList_append_plain rfl _ _ 28 rfl w9.heap.size 82 i0 (.agg #[.int .i64 0, .int .i64 0]) 2 16 Tryz.underlying28 hi hz0 hz1 hz2 rfl (by decide) _ _ _ rfl hown11'.out _ (L + 1 - J) ⟨_, _, rfl⟩ (.inr ⟨_, _, _, rfl⟩) (flatS (l8.drop J)) rfl hldJ.out (fun ad c e i u hi => by cases e; exact dropNews hR11.out hll8.out hJL _ (by rw [if_neg hcJ, Option.map_some, add_at, Nat.zero_add]) i u hi) flatS_one (by unfold maxLen; omega) (by omega) (by omega) ?_; intro v12 w12 hown12 hgrow12; rw [show J + 1 + (L + 1 - J) = 2 * (j + 1) by have := hjL.out; omega] at hown12; obtain ⟨x12, c12, rfl, _, _⟩ := owns_slice hown12)
          have hB12 : Below w9.heap.size w9 w12 := hB11.grown hgrow12 hs11 (fun r e => hro11.out r e)
          have hD12 := hD9'.out.keep hB12 (by omega)
          have hG12 := grown_below2 hG9.out hB12
          have hfin : Hid (w12.ownsRow w.heap.size 82 2 (.slice x12 (2 * (j + 1)) c12) (2 * (j + 1)) (flatS (putL l8 J ((lo + (j : Int)), 1)))) := Lib.hid (by rw [flat_put]; exact owns_more hown12 (by omega))
          have hlf : Hid ((putL l8 J ((lo + (j : Int)), 1)).length = 2 * (j + 1)) := Lib.hid (by rw [putL_length, hll8.out]; have := hjL.out; omega)
          have hD12' := Lib.hid hD12
          have hG12' := Lib.hid hG12
          clear hown12 hgrow12 hB12 hD12 hG12
          go_roundw
          case rel =>
           refine ⟨j + 1, putL l8 J ((lo + (j : Int)), 1), x12, c12, by go_num, hlt, rfl, hlf, hfin.out, Lib.hid (putL_nums hsm8.out ⟨by omega, by omega⟩ ⟨by omega, by omega⟩), ?_, hG12'.out⟩
           have := hD12'.out
           rw [show k + 2 * (j : Int) + 1 + 1 = k + 2 * ((j + 1 : Nat) : Int) by omega] at this
           exact this
          case measure => simp [intOf]; omega
  · obtain rfl : j = n := by omega
    have hlt2 : ¬ lo + (j : Int) < lo + (j : Int) := by omega
    have hD' := Lib.hid hD
    have hown' := Lib.hid hown
    have hG' := Lib.hid hG
    clear hown hD hG
    go_wp2
    go_ret
    exact ⟨⟨_, rfl, l, by rw [hll.out]; exact hown'.out, hll.out, hsm.out⟩, hD'.out, hG'.out⟩
end Go.Proofs.YteclpblfleakhaaGreatDoor.Price

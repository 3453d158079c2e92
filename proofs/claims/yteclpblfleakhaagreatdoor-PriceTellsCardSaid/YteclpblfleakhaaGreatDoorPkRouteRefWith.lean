import Derived.Test.YteclpblfleakhaaGreatDoorPkOrderChk

namespace Go.Proofs.YteclpblfleakhaaGreatDoor.Route
open Go.RowKit Go.Proofs.YteclpblfleakhaaGreatDoor.Mem
set_option linter.unusedVariables false
def NewB (B : Nat) (v : Value) : Prop := ∀ q, v.ownBlock = some q → B ≤ q
theorem NewB.nil (B : Nat) : NewB B (.slice none 0 0) := fun r e => by cases e
theorem ret_vb {v : Value} {a b : Bool} (h : a = b) : Ending.returned (.tuple #[v, .bool a]) = .returned (.tuple #[v, .bool b]) := by rw [h]
theorem with_no {l : List (Int × Int)} {r i j : Int} (h : mayW l r i j = false) : withV l r i j = [] := by unfold withV; rw [h]; rfl
theorem with_yes {l : List (Int × Int)} {r i j : Int} (h : mayW l r i j = true) : withV l r i j = withL l r i.toNat j.toNat := by unfold withV; rw [h]; rfl
theorem may_no {l : List (Int × Int)} {r i j : Int} (h : ¬ (0 ≤ i ∧ i ≤ j ∧ j ≤ l.length ∧ 0 ≤ r ∧ l.length + 2 ≤ 16 ∧ noR r l = true)) : mayW l r i j = false := by
 cases hm : mayW l r i j
 · rfl
 · exact absurd (mayW_iff.1 hm) h
theorem no_more {l : List (Int × Int)} {k : Nat} {s : Int × Int} {r : Int} (hs : l[k]? = some s) (h : ∀ s ∈ l.take k, s.1 ≠ r) (hr : s.1 ≠ r) : ∀ s ∈ l.take (k + 1), s.1 ≠ r := by
 rw [take_get hs]
 intro x hx
 rcases List.mem_append.1 hx with hx | hx
 · exact h x hx
 · rw [List.mem_singleton.1 hx]; exact hr
theorem no_past {l : List (Int × Int)} {k : Nat} {r : Int} (hk : l.length ≤ k) (h : ∀ s ∈ l.take k, s.1 ≠ r) : ∀ s ∈ l.take (k + 1), s.1 ≠ r := by
 rw [List.take_of_length_le (by omega)] at h ⊢
 exact h
def orNo (b : Bool) (l : List (Int × Int)) : List (Int × Int) := if b then l else []
def LpW (l : List (Int × Int)) (r : Int) (I J N : Nat) (w : World) (u i : Value) (wr : World) : Prop :=
 ∃ k : Nat, k ≤ N + 1 ∧ i = .int .i64 k ∧ wr.ownsRow w.heap.size 82 2 u (partL l r I J k).length (flatS (partL l r I J k)) ∧ Hid (∀ s ∈ l.take k, s.1 ≠ r) ∧ Below w.heap.size w wr
theorem LpW.mk_ {l : List (Int × Int)} {r : Int} {I J N : Nat} {w : World} {u i : Value} {wr : World} (k : Nat) (e : i = .int .i64 k) (hk : k ≤ N + 1) {n : Nat} {P : List (Int × Int)} {vs : List Value} (ho : wr.ownsRow w.heap.size 82 2 u n vs) (hp : partL l r I J k = P) (hn : n = P.length) (hv : vs = flatS P)
 (h : ∀ s ∈ l.take k, s.1 ≠ r) (hb : Below w.heap.size w wr) : LpW l r I J N w u i wr := by
 subst hn; subst hv; subst hp
 exact ⟨k, hk, e, ho, h, hb⟩
theorem partL_next {l : List (Int × Int)} {i j k : Nat} {P : List (Int × Int)} {r : Int} (hs : partL l r i j (k + 1) = P ++ oneIf (decide (k = i)) (r, 0) ++ oneIf (decide (k = j)) (r, 1) ++ l[k]?.toList) {a b : List (Int × Int)} {x : Option (Int × Int)}
 (ha : oneIf (decide (k = i)) (r, 0) = a) (hb : oneIf (decide (k = j)) (r, 1) = b) (hx : l[k]? = x) : partL l r i j (k + 1) = P ++ a ++ b ++ x.toList := by rw [hs, ha, hb, hx]
set_option maxRecDepth 100000 in
set_option maxHeartbeats 4000000 in
theorem refWith_in (v : Value) (l : List (Int × Int)) (r : Int) (I J : Nat) (hIJ : I ≤ J) (hJ : J ≤ l.length) (hr : 0 ≤ r) (hl : l.length + 2 ≤ 16) (w : World) (h : Row w.heap.size w v l) :
 Calls Tryz.prog 47 #[v, .int .i64 r, .int .i64 I, .int .i64 J] w fun e w' => (∃ v', e = .returned (.tuple #[v', .bool (noR r l)]) ∧ Row w'.heap.size w' v' (orNo (noR r l) (withL l r I J)) ∧ NewB w.heap.size v') ∧ Below w.heap.size w w' := by
 obtain ⟨i0, hi, hz0, hz1, hz2⟩ := info_parts info_stop
 obtain ⟨x, N, cap, rfl, hN', h0', hc1, hc2⟩ := h.opened
 have h' := Lib.hid h
 have hJ' := Lib.hid hJ
 rw [hN'.out] at hl hJ
 clear h
 have hwr : IntKind.i64.wrap ((N : Int) + 2) = (N : Int) + 2 := IntWalk.i64_in _ (by omega)
 have t1 : decide (J < I) = false := by simp; omega
 have t2 : decide (N < J) = false := by simp; omega
 have t3 : decide ((r : Int) < 0) = false := by simp; omega
 have t4 : decide (((N : Int) + 2) > 16) = false := by simp; omega
 have t5 : decide ((I : Int) < 0) = false := by simp
 go_enter Tryz.func47, Tryz.ntmps47
 go_wp2
 clear t1 t2 t3 t4 t5 hwr
 go_loopw [10, 11] (fun u i wr => LpW l r I J N w u i wr)
  (fun _ i _ => N + 1 - (intOf i).toNat)
 case atStart => exact .mk_ 0 rfl (by omega) (World.ownsRow_nil _ _ _ _) (partL_zero ..) rfl rfl (by simp) (Below.refl _ _)
 case round =>
  obtain ⟨k, hk, rfl, hown, hno, hbw⟩ := hrel
  by_cases hlt : k < N + 1
  · have hps := Lib.hid (partL_succ hIJ hJ'.out r k)
    have hln := partL_length hIJ hJ'.out r k
    have hle : (k : Int) ≤ N := by omega
    have hsz := hbw.size
    obtain ⟨P, hP⟩ : ∃ P, partL l r I J k = P := ⟨_, rfl⟩
    rw [hP] at hown hps hln
    clear hP
    by_cases hkI : k = I
    · subst hkI
      by_cases hkJ : k = J
      · subst hkJ
        by_cases hkn : k < N
        · obtain ⟨⟨s1, s2⟩, hs, _⟩ := drop_get (l := l) (k := k) (by rw [hN'.out]; exact hkn)
          obtain ⟨g, o, rfl, hg, e1, e2⟩ := Row.stop h'.out hs
          by_cases hr1 : s1 = r
          · subst hr1
            have hF := Lib.hid (show noR s1 l = false by cases hm : noR s1 l with | false => rfl | true => exact absurd rfl (noR_iff.1 hm _ (List.mem_of_getElem? hs)))
            clear hs hps hno
            go_upto_region 9 with (at_builtin; refine wpList_append_own _ rfl _ _ 28 rfl w.heap.size 82 i0 (.agg #[.int .i64 0, .int .i64 0]) 2 16 Tryz.underlying28 hi hz0 hz1 hz2 rfl (by decide) _ _ _ rfl (hown.alloc _) ⟨wr.heap.size, 0, none⟩ 1 1 [.int .i64 s1, .int .i64 0] rfl rfl (World.news_of_block (cs := #[.int .i64 s1, .int .i64 0]) (t := 82) (fr := (0, 0)) (heap_alloc_new wr _)) (by simp [Value.oneCell']) (by unfold maxLen; omega) (by omega) (by simp; omega) ?_; intro v7 w7 hown7 hgrow7 hnil7)
            have hb7 : Below w.heap.size w w7 := (hbw.alloc hbw.size _).grown hgrow7 (by simp; omega) (owns_row hown)
            have hs7 := hb7.size
            clear hgrow7 hnil7 hown hbw
            go_upto_region 11 with (at_builtin; refine wpList_append_own _ rfl _ _ 28 rfl w.heap.size 82 i0 (.agg #[.int .i64 0, .int .i64 0]) 2 16 Tryz.underlying28 hi hz0 hz1 hz2 rfl (by decide) _ _ _ rfl (hown7.alloc _) ⟨w7.heap.size, 0, none⟩ 1 1 [.int .i64 s1, .int .i64 1] rfl rfl (World.news_of_block (cs := #[.int .i64 s1, .int .i64 1]) (t := 82) (fr := (0, 0)) (heap_alloc_new w7 _)) (by simp [Value.oneCell']) (by unfold maxLen; omega) (by omega) (by simp; omega) ?_; intro v8 w8 hown8 hgrow8 hnil8)
            have hb8 : Below w.heap.size w w8 := (hb7.alloc hb7.size _).grown hgrow8 (by simp; omega) (owns_row hown7)
            have hs8 := hb8.size
            clear hgrow8 hnil8 hown7 hb7
            have e1 := (hb8.cell (p := ⟨g, o + k * 2, none⟩) hg).trans e1
            have e2 := (hb8.cell (p := ⟨g, o + k * 2 + 1, none⟩) hg).trans e2
            simp at e1 e2
            go_wp2
            refine bodyPost_ret (v := .tuple #[.slice none 0 0, .bool false]) (by simp [results, Tryz.results47, go_sem]) rfl ?_
            exact ⟨⟨_, ret_vb hF.out.symm, by rw [hF.out]; exact RowB.nil _ _ _, NewB.nil _⟩, hb8⟩
          · have hr2 : (s1 == r) = false := by rw [beq_eq_false_iff_ne]; exact hr1
            have hsk := Lib.hid hs
            have hnoS : Hid (∀ s ∈ l.take (k + 1), s.1 ≠ r) := Lib.hid (no_more hs hno.out hr1)
            have hpn := Lib.hid (show partL l r k k (k + 1) = P ++ [(r, 0), (r, 1), (s1, s2)] from (partL_next hps.out (oneIf_yes (by simp) _) (oneIf_yes (by simp) _) hsk.out).trans (by simp))
            clear hs hr1 hps hsk hno
            go_upto_region 9 with (at_builtin; refine wpList_append_own _ rfl _ _ 28 rfl w.heap.size 82 i0 (.agg #[.int .i64 0, .int .i64 0]) 2 16 Tryz.underlying28 hi hz0 hz1 hz2 rfl (by decide) _ _ _ rfl (hown.alloc _) ⟨wr.heap.size, 0, none⟩ 1 1 [.int .i64 r, .int .i64 0] rfl rfl (World.news_of_block (cs := #[.int .i64 r, .int .i64 0]) (t := 82) (fr := (0, 0)) (heap_alloc_new wr _)) (by simp [Value.oneCell']) (by unfold maxLen; omega) (by omega) (by simp; omega) ?_; intro v7 w7 hown7 hgrow7 hnil7)
            have hb7 : Below w.heap.size w w7 := (hbw.alloc hbw.size _).grown hgrow7 (by simp; omega) (owns_row hown)
            have hs7 := hb7.size
            clear hgrow7 hnil7 hown hbw
            go_upto_region 11 with (at_builtin; refine wpList_append_own _ rfl _ _ 28 rfl w.heap.size 82 i0 (.agg #[.int .i64 0, .int .i64 0]) 2 16 Tryz.underlying28 hi hz0 hz1 hz2 rfl (by decide) _ _ _ rfl (hown7.alloc _) ⟨w7.heap.size, 0, none⟩ 1 1 [.int .i64 r, .int .i64 1] rfl rfl (World.news_of_block (cs := #[.int .i64 r, .int .i64 1]) (t := 82) (fr := (0, 0)) (heap_alloc_new w7 _)) (by simp [Value.oneCell']) (by unfold maxLen; omega) (by omega) (by simp; omega) ?_; intro v8 w8 hown8 hgrow8 hnil8)
            have hb8 : Below w.heap.size w w8 := (hb7.alloc hb7.size _).grown hgrow8 (by simp; omega) (owns_row hown7)
            have hs8 := hb8.size
            clear hgrow8 hnil8 hown7 hb7
            have e1 := (hb8.cell (p := ⟨g, o + k * 2, none⟩) hg).trans e1
            have e2 := (hb8.cell (p := ⟨g, o + k * 2 + 1, none⟩) hg).trans e2
            simp at e1 e2
            go_wp2_with (at_builtin; refine wpList_append_own _ rfl _ _ 28 rfl w.heap.size 82 i0 (.agg #[.int .i64 0, .int .i64 0]) 2 16 Tryz.underlying28 hi hz0 hz1 hz2 rfl (by decide) _ _ _ rfl (hown8.alloc _) ⟨w8.heap.size, 0, none⟩ 1 1 [.int .i64 s1, .int .i64 s2] rfl rfl (World.news_of_block (cs := #[.int .i64 s1, .int .i64 s2]) (t := 82) (fr := (0, 0)) (heap_alloc_new w8 _)) (by simp [Value.oneCell']) (by unfold maxLen; omega) (by omega) (by simp; omega) ?_; intro v9 w9 hown9 hgrow9 hnil9)
            have hb9 : Below w.heap.size w w9 := (hb8.alloc hb8.size _).grown hgrow9 (by simp; omega) (owns_row hown8)
            go_roundw
            case rel =>
             have hX : LpW l r k k N w v9 (.int .i64 ((k : Int) + 1)) w9 := LpW.mk_ (k + 1) (by go_num) (by omega) hown9 hpn.out (by simp) (by simp [flatS, stV]) hnoS.out hb9
             first | exact hX | ((repeat apply Exists.intro); refine ⟨hX, ?_⟩; repeat (first | rfl | refine ⟨rfl, ?_⟩))
            case measure => simp [intOf] <;> omega
        · have hge : N ≤ k := by omega
          have hkN := Lib.hid (show l[k]? = none by rw [List.getElem?_eq_none_iff, hN'.out]; omega)
          have hnoN : Hid (∀ s ∈ l.take (k + 1), s.1 ≠ r) := Lib.hid (no_past (by rw [hN'.out]; exact hge) hno.out)
          have hpn := Lib.hid (show partL l r k k (k + 1) = P ++ [(r, 0), (r, 1)] from (partL_next hps.out (oneIf_yes (by simp) _) (oneIf_yes (by simp) _) hkN.out).trans (by simp))
          clear hps hkN hno
          go_upto_region 9 with (at_builtin; refine wpList_append_own _ rfl _ _ 28 rfl w.heap.size 82 i0 (.agg #[.int .i64 0, .int .i64 0]) 2 16 Tryz.underlying28 hi hz0 hz1 hz2 rfl (by decide) _ _ _ rfl (hown.alloc _) ⟨wr.heap.size, 0, none⟩ 1 1 [.int .i64 r, .int .i64 0] rfl rfl (World.news_of_block (cs := #[.int .i64 r, .int .i64 0]) (t := 82) (fr := (0, 0)) (heap_alloc_new wr _)) (by simp [Value.oneCell']) (by unfold maxLen; omega) (by omega) (by simp; omega) ?_; intro v7 w7 hown7 hgrow7 hnil7)
          have hb7 : Below w.heap.size w w7 := (hbw.alloc hbw.size _).grown hgrow7 (by simp; omega) (owns_row hown)
          have hs7 := hb7.size
          clear hgrow7 hnil7 hown hbw
          go_upto_region 11 with (at_builtin; refine wpList_append_own _ rfl _ _ 28 rfl w.heap.size 82 i0 (.agg #[.int .i64 0, .int .i64 0]) 2 16 Tryz.underlying28 hi hz0 hz1 hz2 rfl (by decide) _ _ _ rfl (hown7.alloc _) ⟨w7.heap.size, 0, none⟩ 1 1 [.int .i64 r, .int .i64 1] rfl rfl (World.news_of_block (cs := #[.int .i64 r, .int .i64 1]) (t := 82) (fr := (0, 0)) (heap_alloc_new w7 _)) (by simp [Value.oneCell']) (by unfold maxLen; omega) (by omega) (by simp; omega) ?_; intro v8 w8 hown8 hgrow8 hnil8)
          have hb8 : Below w.heap.size w w8 := (hb7.alloc hb7.size _).grown hgrow8 (by simp; omega) (owns_row hown7)
          have hs8 := hb8.size
          clear hgrow8 hnil8 hown7 hb7
          go_wp2
          go_roundw
          case rel =>
           have hX : LpW l r k k N w v8 (.int .i64 ((k : Int) + 1)) w8 := LpW.mk_ (k + 1) (by go_num) (by omega) hown8 hpn.out (by simp) (by simp [flatS, stV]) hnoN.out hb8
           first | exact hX | ((repeat apply Exists.intro); refine ⟨hX, ?_⟩; repeat (first | rfl | refine ⟨rfl, ?_⟩))
          case measure => simp [intOf] <;> omega
      · have tJ : ((k : Int) == J) = false := by rw [beq_eq_false_iff_ne]; omega
        by_cases hkn : k < N
        · obtain ⟨⟨s1, s2⟩, hs, _⟩ := drop_get (l := l) (k := k) (by rw [hN'.out]; exact hkn)
          obtain ⟨g, o, rfl, hg, e1, e2⟩ := Row.stop h'.out hs
          by_cases hr1 : s1 = r
          · subst hr1
            have hF := Lib.hid (show noR s1 l = false by cases hm : noR s1 l with | false => rfl | true => exact absurd rfl (noR_iff.1 hm _ (List.mem_of_getElem? hs)))
            clear hs hps hno
            go_upto_region 9 with (at_builtin; refine wpList_append_own _ rfl _ _ 28 rfl w.heap.size 82 i0 (.agg #[.int .i64 0, .int .i64 0]) 2 16 Tryz.underlying28 hi hz0 hz1 hz2 rfl (by decide) _ _ _ rfl (hown.alloc _) ⟨wr.heap.size, 0, none⟩ 1 1 [.int .i64 s1, .int .i64 0] rfl rfl (World.news_of_block (cs := #[.int .i64 s1, .int .i64 0]) (t := 82) (fr := (0, 0)) (heap_alloc_new wr _)) (by simp [Value.oneCell']) (by unfold maxLen; omega) (by omega) (by simp; omega) ?_; intro v7 w7 hown7 hgrow7 hnil7)
            have hb7 : Below w.heap.size w w7 := (hbw.alloc hbw.size _).grown hgrow7 (by simp; omega) (owns_row hown)
            have hs7 := hb7.size
            clear hgrow7 hnil7 hown hbw
            go_upto_region 11 with fail
            have e1 := (hb7.cell (p := ⟨g, o + k * 2, none⟩) hg).trans e1
            have e2 := (hb7.cell (p := ⟨g, o + k * 2 + 1, none⟩) hg).trans e2
            simp at e1 e2
            go_wp2
            refine bodyPost_ret (v := .tuple #[.slice none 0 0, .bool false]) (by simp [results, Tryz.results47, go_sem]) rfl ?_
            exact ⟨⟨_, ret_vb hF.out.symm, by rw [hF.out]; exact RowB.nil _ _ _, NewB.nil _⟩, hb7⟩
          · have hr2 : (s1 == r) = false := by rw [beq_eq_false_iff_ne]; exact hr1
            have hsk := Lib.hid hs
            have hnoS : Hid (∀ s ∈ l.take (k + 1), s.1 ≠ r) := Lib.hid (no_more hs hno.out hr1)
            have hpn := Lib.hid (show partL l r k J (k + 1) = P ++ [(r, 0), (s1, s2)] from (partL_next hps.out (oneIf_yes (by simp) _) (oneIf_no (by simpa using hkJ) _) hsk.out).trans (by simp))
            clear hs hr1 hps hsk hno
            go_upto_region 9 with (at_builtin; refine wpList_append_own _ rfl _ _ 28 rfl w.heap.size 82 i0 (.agg #[.int .i64 0, .int .i64 0]) 2 16 Tryz.underlying28 hi hz0 hz1 hz2 rfl (by decide) _ _ _ rfl (hown.alloc _) ⟨wr.heap.size, 0, none⟩ 1 1 [.int .i64 r, .int .i64 0] rfl rfl (World.news_of_block (cs := #[.int .i64 r, .int .i64 0]) (t := 82) (fr := (0, 0)) (heap_alloc_new wr _)) (by simp [Value.oneCell']) (by unfold maxLen; omega) (by omega) (by simp; omega) ?_; intro v7 w7 hown7 hgrow7 hnil7)
            have hb7 : Below w.heap.size w w7 := (hbw.alloc hbw.size _).grown hgrow7 (by simp; omega) (owns_row hown)
            have hs7 := hb7.size
            clear hgrow7 hnil7 hown hbw
            go_upto_region 11 with fail
            have e1 := (hb7.cell (p := ⟨g, o + k * 2, none⟩) hg).trans e1
            have e2 := (hb7.cell (p := ⟨g, o + k * 2 + 1, none⟩) hg).trans e2
            simp at e1 e2
            go_wp2_with (at_builtin; refine wpList_append_own _ rfl _ _ 28 rfl w.heap.size 82 i0 (.agg #[.int .i64 0, .int .i64 0]) 2 16 Tryz.underlying28 hi hz0 hz1 hz2 rfl (by decide) _ _ _ rfl (hown7.alloc _) ⟨w7.heap.size, 0, none⟩ 1 1 [.int .i64 s1, .int .i64 s2] rfl rfl (World.news_of_block (cs := #[.int .i64 s1, .int .i64 s2]) (t := 82) (fr := (0, 0)) (heap_alloc_new w7 _)) (by simp [Value.oneCell']) (by unfold maxLen; omega) (by omega) (by simp; omega) ?_; intro v9 w9 hown9 hgrow9 hnil9)
            have hb9 : Below w.heap.size w w9 := (hb7.alloc hb7.size _).grown hgrow9 (by simp; omega) (owns_row hown7)
            go_roundw
            case rel =>
             have hX : LpW l r k J N w v9 (.int .i64 ((k : Int) + 1)) w9 := LpW.mk_ (k + 1) (by go_num) (by omega) hown9 hpn.out (by simp) (by simp [flatS, stV]) hnoS.out hb9
             first | exact hX | ((repeat apply Exists.intro); refine ⟨hX, ?_⟩; repeat (first | rfl | refine ⟨rfl, ?_⟩))
            case measure => simp [intOf] <;> omega
        · have hge : N ≤ k := by omega
          have hkN := Lib.hid (show l[k]? = none by rw [List.getElem?_eq_none_iff, hN'.out]; omega)
          have hnoN : Hid (∀ s ∈ l.take (k + 1), s.1 ≠ r) := Lib.hid (no_past (by rw [hN'.out]; exact hge) hno.out)
          have hpn := Lib.hid (show partL l r k J (k + 1) = P ++ [(r, 0)] from (partL_next hps.out (oneIf_yes (by simp) _) (oneIf_no (by simpa using hkJ) _) hkN.out).trans (by simp))
          clear hps hkN hno
          exact absurd (show k = J by omega) hkJ
    · have tI : ((k : Int) == I) = false := by rw [beq_eq_false_iff_ne]; omega
      by_cases hkJ : k = J
      · subst hkJ
        by_cases hkn : k < N
        · obtain ⟨⟨s1, s2⟩, hs, _⟩ := drop_get (l := l) (k := k) (by rw [hN'.out]; exact hkn)
          obtain ⟨g, o, rfl, hg, e1, e2⟩ := Row.stop h'.out hs
          by_cases hr1 : s1 = r
          · subst hr1
            have hF := Lib.hid (show noR s1 l = false by cases hm : noR s1 l with | false => rfl | true => exact absurd rfl (noR_iff.1 hm _ (List.mem_of_getElem? hs)))
            clear hs hps hno
            go_upto_region 9 with fail
            go_upto_region 11 with (at_builtin; refine wpList_append_own _ rfl _ _ 28 rfl w.heap.size 82 i0 (.agg #[.int .i64 0, .int .i64 0]) 2 16 Tryz.underlying28 hi hz0 hz1 hz2 rfl (by decide) _ _ _ rfl (hown.alloc _) ⟨wr.heap.size, 0, none⟩ 1 1 [.int .i64 s1, .int .i64 1] rfl rfl (World.news_of_block (cs := #[.int .i64 s1, .int .i64 1]) (t := 82) (fr := (0, 0)) (heap_alloc_new wr _)) (by simp [Value.oneCell']) (by unfold maxLen; omega) (by omega) (by simp; omega) ?_; intro v8 w8 hown8 hgrow8 hnil8)
            have hb8 : Below w.heap.size w w8 := (hbw.alloc hbw.size _).grown hgrow8 (by simp; omega) (owns_row hown)
            have hs8 := hb8.size
            clear hgrow8 hnil8 hown hbw
            have e1 := (hb8.cell (p := ⟨g, o + k * 2, none⟩) hg).trans e1
            have e2 := (hb8.cell (p := ⟨g, o + k * 2 + 1, none⟩) hg).trans e2
            simp at e1 e2
            go_wp2
            refine bodyPost_ret (v := .tuple #[.slice none 0 0, .bool false]) (by simp [results, Tryz.results47, go_sem]) rfl ?_
            exact ⟨⟨_, ret_vb hF.out.symm, by rw [hF.out]; exact RowB.nil _ _ _, NewB.nil _⟩, hb8⟩
          · have hr2 : (s1 == r) = false := by rw [beq_eq_false_iff_ne]; exact hr1
            have hsk := Lib.hid hs
            have hnoS : Hid (∀ s ∈ l.take (k + 1), s.1 ≠ r) := Lib.hid (no_more hs hno.out hr1)
            have hpn := Lib.hid (show partL l r I k (k + 1) = P ++ [(r, 1), (s1, s2)] from (partL_next hps.out (oneIf_no (by simpa using hkI) _) (oneIf_yes (by simp) _) hsk.out).trans (by simp))
            clear hs hr1 hps hsk hno
            go_upto_region 9 with fail
            go_upto_region 11 with (at_builtin; refine wpList_append_own _ rfl _ _ 28 rfl w.heap.size 82 i0 (.agg #[.int .i64 0, .int .i64 0]) 2 16 Tryz.underlying28 hi hz0 hz1 hz2 rfl (by decide) _ _ _ rfl (hown.alloc _) ⟨wr.heap.size, 0, none⟩ 1 1 [.int .i64 r, .int .i64 1] rfl rfl (World.news_of_block (cs := #[.int .i64 r, .int .i64 1]) (t := 82) (fr := (0, 0)) (heap_alloc_new wr _)) (by simp [Value.oneCell']) (by unfold maxLen; omega) (by omega) (by simp; omega) ?_; intro v8 w8 hown8 hgrow8 hnil8)
            have hb8 : Below w.heap.size w w8 := (hbw.alloc hbw.size _).grown hgrow8 (by simp; omega) (owns_row hown)
            have hs8 := hb8.size
            clear hgrow8 hnil8 hown hbw
            have e1 := (hb8.cell (p := ⟨g, o + k * 2, none⟩) hg).trans e1
            have e2 := (hb8.cell (p := ⟨g, o + k * 2 + 1, none⟩) hg).trans e2
            simp at e1 e2
            go_wp2_with (at_builtin; refine wpList_append_own _ rfl _ _ 28 rfl w.heap.size 82 i0 (.agg #[.int .i64 0, .int .i64 0]) 2 16 Tryz.underlying28 hi hz0 hz1 hz2 rfl (by decide) _ _ _ rfl (hown8.alloc _) ⟨w8.heap.size, 0, none⟩ 1 1 [.int .i64 s1, .int .i64 s2] rfl rfl (World.news_of_block (cs := #[.int .i64 s1, .int .i64 s2]) (t := 82) (fr := (0, 0)) (heap_alloc_new w8 _)) (by simp [Value.oneCell']) (by unfold maxLen; omega) (by omega) (by simp; omega) ?_; intro v9 w9 hown9 hgrow9 hnil9)
            have hb9 : Below w.heap.size w w9 := (hb8.alloc hb8.size _).grown hgrow9 (by simp; omega) (owns_row hown8)
            go_roundw
            case rel =>
             have hX : LpW l r I k N w v9 (.int .i64 ((k : Int) + 1)) w9 := LpW.mk_ (k + 1) (by go_num) (by omega) hown9 hpn.out (by simp) (by simp [flatS, stV]) hnoS.out hb9
             first | exact hX | ((repeat apply Exists.intro); refine ⟨hX, ?_⟩; repeat (first | rfl | refine ⟨rfl, ?_⟩))
            case measure => simp [intOf] <;> omega
        · have hge : N ≤ k := by omega
          have hkN := Lib.hid (show l[k]? = none by rw [List.getElem?_eq_none_iff, hN'.out]; omega)
          have hnoN : Hid (∀ s ∈ l.take (k + 1), s.1 ≠ r) := Lib.hid (no_past (by rw [hN'.out]; exact hge) hno.out)
          have hpn := Lib.hid (show partL l r I k (k + 1) = P ++ [(r, 1)] from (partL_next hps.out (oneIf_no (by simpa using hkI) _) (oneIf_yes (by simp) _) hkN.out).trans (by simp))
          clear hps hkN hno
          go_upto_region 9 with fail
          go_upto_region 11 with (at_builtin; refine wpList_append_own _ rfl _ _ 28 rfl w.heap.size 82 i0 (.agg #[.int .i64 0, .int .i64 0]) 2 16 Tryz.underlying28 hi hz0 hz1 hz2 rfl (by decide) _ _ _ rfl (hown.alloc _) ⟨wr.heap.size, 0, none⟩ 1 1 [.int .i64 r, .int .i64 1] rfl rfl (World.news_of_block (cs := #[.int .i64 r, .int .i64 1]) (t := 82) (fr := (0, 0)) (heap_alloc_new wr _)) (by simp [Value.oneCell']) (by unfold maxLen; omega) (by omega) (by simp; omega) ?_; intro v8 w8 hown8 hgrow8 hnil8)
          have hb8 : Below w.heap.size w w8 := (hbw.alloc hbw.size _).grown hgrow8 (by simp; omega) (owns_row hown)
          have hs8 := hb8.size
          clear hgrow8 hnil8 hown hbw
          go_wp2
          go_roundw
          case rel =>
           have hX : LpW l r I k N w v8 (.int .i64 ((k : Int) + 1)) w8 := LpW.mk_ (k + 1) (by go_num) (by omega) hown8 hpn.out (by simp) (by simp [flatS, stV]) hnoN.out hb8
           first | exact hX | ((repeat apply Exists.intro); refine ⟨hX, ?_⟩; repeat (first | rfl | refine ⟨rfl, ?_⟩))
          case measure => simp [intOf] <;> omega
      · have tJ : ((k : Int) == J) = false := by rw [beq_eq_false_iff_ne]; omega
        by_cases hkn : k < N
        · obtain ⟨⟨s1, s2⟩, hs, _⟩ := drop_get (l := l) (k := k) (by rw [hN'.out]; exact hkn)
          obtain ⟨g, o, rfl, hg, e1, e2⟩ := Row.stop h'.out hs
          by_cases hr1 : s1 = r
          · subst hr1
            have hF := Lib.hid (show noR s1 l = false by cases hm : noR s1 l with | false => rfl | true => exact absurd rfl (noR_iff.1 hm _ (List.mem_of_getElem? hs)))
            clear hs hps hno
            go_upto_region 9 with fail
            go_upto_region 11 with fail
            have e1 := (hbw.cell (p := ⟨g, o + k * 2, none⟩) hg).trans e1
            have e2 := (hbw.cell (p := ⟨g, o + k * 2 + 1, none⟩) hg).trans e2
            simp at e1 e2
            go_wp2
            refine bodyPost_ret (v := .tuple #[.slice none 0 0, .bool false]) (by simp [results, Tryz.results47, go_sem]) rfl ?_
            exact ⟨⟨_, ret_vb hF.out.symm, by rw [hF.out]; exact RowB.nil _ _ _, NewB.nil _⟩, hbw⟩
          · have hr2 : (s1 == r) = false := by rw [beq_eq_false_iff_ne]; exact hr1
            have hsk := Lib.hid hs
            have hnoS : Hid (∀ s ∈ l.take (k + 1), s.1 ≠ r) := Lib.hid (no_more hs hno.out hr1)
            have hpn := Lib.hid (show partL l r I J (k + 1) = P ++ [(s1, s2)] from (partL_next hps.out (oneIf_no (by simpa using hkI) _) (oneIf_no (by simpa using hkJ) _) hsk.out).trans (by simp))
            clear hs hr1 hps hsk hno
            go_upto_region 9 with fail
            go_upto_region 11 with fail
            have e1 := (hbw.cell (p := ⟨g, o + k * 2, none⟩) hg).trans e1
            have e2 := (hbw.cell (p := ⟨g, o + k * 2 + 1, none⟩) hg).trans e2
            simp at e1 e2
            go_wp2_with (at_builtin; refine wpList_append_own _ rfl _ _ 28 rfl w.heap.size 82 i0 (.agg #[.int .i64 0, .int .i64 0]) 2 16 Tryz.underlying28 hi hz0 hz1 hz2 rfl (by decide) _ _ _ rfl (hown.alloc _) ⟨wr.heap.size, 0, none⟩ 1 1 [.int .i64 s1, .int .i64 s2] rfl rfl (World.news_of_block (cs := #[.int .i64 s1, .int .i64 s2]) (t := 82) (fr := (0, 0)) (heap_alloc_new wr _)) (by simp [Value.oneCell']) (by unfold maxLen; omega) (by omega) (by simp; omega) ?_; intro v9 w9 hown9 hgrow9 hnil9)
            have hb9 : Below w.heap.size w w9 := (hbw.alloc hbw.size _).grown hgrow9 (by simp; omega) (owns_row hown)
            go_roundw
            case rel =>
             have hX : LpW l r I J N w v9 (.int .i64 ((k : Int) + 1)) w9 := LpW.mk_ (k + 1) (by go_num) (by omega) hown9 hpn.out (by simp) (by simp [flatS, stV]) hnoS.out hb9
             first | exact hX | ((repeat apply Exists.intro); refine ⟨hX, ?_⟩; repeat (first | rfl | refine ⟨rfl, ?_⟩))
            case measure => simp [intOf] <;> omega
        · have hge : N ≤ k := by omega
          have hkN := Lib.hid (show l[k]? = none by rw [List.getElem?_eq_none_iff, hN'.out]; omega)
          have hnoN : Hid (∀ s ∈ l.take (k + 1), s.1 ≠ r) := Lib.hid (no_past (by rw [hN'.out]; exact hge) hno.out)
          have hpn := Lib.hid (show partL l r I J (k + 1) = P from (partL_next hps.out (oneIf_no (by simpa using hkI) _) (oneIf_no (by simpa using hkJ) _) hkN.out).trans (by simp))
          clear hps hkN hno
          go_upto_region 9 with fail
          go_upto_region 11 with fail
          go_wp2
          go_roundw
          case rel =>
           have hX : LpW l r I J N w u10 (.int .i64 ((k : Int) + 1)) wr := LpW.mk_ (k + 1) (by go_num) (by omega) hown hpn.out (by simp) (by simp [flatS]) hnoN.out hbw
           first | exact hX | ((repeat apply Exists.intro); refine ⟨hX, ?_⟩; repeat (first | rfl | refine ⟨rfl, ?_⟩))
          case measure => simp [intOf] <;> omega
  · obtain rfl : k = N + 1 := by omega
    have hlast := Lib.hid (partL_last hIJ hJ'.out r)
    have hT : noR r l = true := by
     rw [noR_iff]
     have := hno.out
     rwa [List.take_of_length_le (by rw [hN'.out]; omega)] at this
    rw [show N + 1 = l.length + 1 by rw [hN'.out], hlast.out] at hown
    have hnB := Lib.hid (owns_row hown : NewB w.heap.size _)
    have hr := Lib.hid (Row.of_owns (B := wr.heap.size) hown rfl (Nat.le_refl _))
    have hT' := Lib.hid hT
    clear hown hT hlast hno
    go_wp2
    refine bodyPost_ret (v := .tuple #[_, .bool _]) (by simp [results, Tryz.results47, go_sem]; exact ⟨rfl, rfl⟩) rfl ?_
    exact ⟨⟨_, ret_vb hT'.out.symm, by rw [hT'.out]; exact hr.out, hnB.out⟩, hbw⟩
set_option maxRecDepth 100000 in
set_option maxHeartbeats 1000000 in
theorem refWith_new (v : Value) (l : List (Int × Int)) (r i j : Int) (hl : l.length ≤ 1000000) (w : World) (h : Row w.heap.size w v l) :
 Calls Tryz.prog 47 #[v, .int .i64 r, .int .i64 i, .int .i64 j] w fun e w' => (∃ v', e = .returned (.tuple #[v', .bool (mayW l r i j)]) ∧ Row w'.heap.size w' v' (withV l r i j) ∧ NewB w.heap.size v') ∧ Below w.heap.size w w' := by
 by_cases hall : 0 ≤ i ∧ i ≤ j ∧ j ≤ l.length ∧ 0 ≤ r ∧ l.length + 2 ≤ 16
 · obtain ⟨h1, h2, h3, h4, h5⟩ := hall
   obtain ⟨I, rfl⟩ : ∃ I : Nat, i = I := ⟨i.toNat, by omega⟩
   obtain ⟨J, rfl⟩ : ∃ J : Nat, j = J := ⟨j.toNat, by omega⟩
   refine (refWith_in v l r I J (by omega) (by omega) h4 h5 w h).mono ?_
   rintro e w' ⟨⟨v', rfl, hv, hnv⟩, hb⟩
   have hm : mayW l r I J = noR r l := by
    cases hn : noR r l
    · exact may_no fun hh => by rw [hn] at hh; exact absurd hh.2.2.2.2.2 (by simp)
    · exact mayW_iff.2 ⟨h1, h2, h3, h4, h5, hn⟩
   refine ⟨⟨v', ret_vb hm.symm, ?_, hnv⟩, hb⟩
   unfold withV
   rw [hm]
   exact hv
 · have hF := Lib.hid (may_no (l := l) (r := r) (i := i) (j := j) fun hh => hall ⟨hh.1, hh.2.1, hh.2.2.1, hh.2.2.2.1, hh.2.2.2.2.1⟩)
   have hE := Lib.hid (with_no hF.out)
   obtain ⟨x, N, cap, rfl, hN', h0', hc1, hc2⟩ := h.opened
   rw [hN'.out] at hall hl
   have hall' := Lib.hid hall
   clear h hall
   have hwr : IntKind.i64.wrap ((N : Int) + 2) = (N : Int) + 2 := IntWalk.i64_in _ (by omega)
   have fin : ∀ W, Below w.heap.size w W → (∃ v', Ending.returned (.tuple #[.slice none 0 0, .bool false]) = .returned (.tuple #[v', .bool (mayW l r i j)]) ∧ Row W.heap.size W v' (withV l r i j) ∧ NewB w.heap.size v') ∧ Below w.heap.size w W :=
    fun W hb => ⟨⟨_, ret_vb hF.out.symm, by rw [hE.out]; exact RowB.nil _ _ _, NewB.nil _⟩, hb⟩
   have fin' := Lib.hid fin
   clear fin
   cases c0 : decide ((i : Int) < 0)
   case true =>
    go_enter Tryz.func47, Tryz.ntmps47
    go_wp2
    refine bodyPost_ret (v := .tuple #[.slice none 0 0, .bool false]) (by simp [results, Tryz.results47, go_sem]) rfl ?_
    exact fin'.out _ (Below.refl _ _)
   case false =>
    cases c1 : decide ((i : Int) > j)
    case true =>
     go_enter Tryz.func47, Tryz.ntmps47
     go_wp2
     refine bodyPost_ret (v := .tuple #[.slice none 0 0, .bool false]) (by simp [results, Tryz.results47, go_sem]) rfl ?_
     exact fin'.out _ (Below.refl _ _)
    case false =>
     cases c2 : decide ((j : Int) > N)
     case true =>
      go_enter Tryz.func47, Tryz.ntmps47
      go_wp2
      refine bodyPost_ret (v := .tuple #[.slice none 0 0, .bool false]) (by simp [results, Tryz.results47, go_sem]) rfl ?_
      exact fin'.out _ (Below.refl _ _)
     case false =>
      cases c3 : decide ((r : Int) < 0)
      case true =>
       go_enter Tryz.func47, Tryz.ntmps47
       go_wp2
       refine bodyPost_ret (v := .tuple #[.slice none 0 0, .bool false]) (by simp [results, Tryz.results47, go_sem]) rfl ?_
       exact fin'.out _ (Below.refl _ _)
      case false =>
       cases c4 : decide (((N : Int) + 2) > 16)
       case true =>
        go_enter Tryz.func47, Tryz.ntmps47
        go_wp2
        refine bodyPost_ret (v := .tuple #[.slice none 0 0, .bool false]) (by simp [results, Tryz.results47, go_sem]) rfl ?_
        exact fin'.out _ (Below.refl _ _)
       case false =>
        exfalso
        simp only [decide_eq_false_iff_not] at c0 c1 c2 c3 c4
        exact hall'.out ⟨by omega, by omega, by omega, by omega, by omega⟩
theorem refWith_any (v : Value) (l : List (Int × Int)) (r i j : Int) (hl : l.length ≤ 1000000) (w : World) (h : Row w.heap.size w v l) :
 Calls Tryz.prog 47 #[v, .int .i64 r, .int .i64 i, .int .i64 j] w fun e w' => (∃ v', e = .returned (.tuple #[v', .bool (mayW l r i j)]) ∧ Row w'.heap.size w' v' (withV l r i j)) ∧ Below w.heap.size w w' :=
 (refWith_new v l r i j hl w h).mono fun e w' ⟨⟨v', he, hv, _⟩, hb⟩ => ⟨⟨v', he, hv⟩, hb⟩
end Go.Proofs.YteclpblfleakhaaGreatDoor.Route

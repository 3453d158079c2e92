import Derived.Test.YteclpblfleakhaaGreatDoorPkRouteRefWith
import Derived.Test.YteclpblfleakhaaGreatDoorPkCheapMath

namespace Go.Proofs.YteclpblfleakhaaGreatDoor.Ins
open Go.RowKit Go.Proofs.YteclpblfleakhaaGreatDoor.Mem Go.Proofs.YteclpblfleakhaaGreatDoor.Route Go.Proofs.YteclpblfleakhaaGreatDoor.When Go.Proofs.YteclpblfleakhaaGreatDoor.Load
set_option linter.unusedVariables false
theorem closure_any (c : Nat) (s1 s2 r : Int) (w : World) (hc : w.cell? ⟨c, 0, none⟩ = some (.int .i64 r)) (hin : c < w.heap.size) :
 Calls Tryz.prog 105 #[.agg #[.int .i64 s1, .int .i64 s2], .pointer (some ⟨c, 0, none⟩)] w fun e w' => e = .returned (.bool (decide (s1 = r))) ∧ Below w.heap.size w w' := by
 have hb0 : Below w.heap.size w (w.alloc (.cells #[.int .i64 s1, .int .i64 s2] 82)) := (Below.refl _ _).alloc (Nat.le_refl _) _
 have hc1 := (hb0.cell (p := ⟨c, 0, none⟩) hin).trans hc
 go_enter Tryz.func105, Tryz.ntmps105
 go_wp2
 go_ret
 exact ⟨ret_bool (by first | rfl | simp), hb0⟩
theorem closure_in (args : Array Value) (w : World) : (callFunc 105 args).run Tryz.prog w = .ok (.enter 105 args) w := by
 simp [callFunc, Tryz.func105]
 rfl
theorem any_snoc {α : Type} (p : α → Bool) (l : List α) (x : α) : (l ++ [x]).any p = (l.any p || p x) := by simp
theorem takeA {α : Type} {l : List α} {k : Nat} {s : α} (h : l[k]? = some s) : l.take (k + 1) = l.take k ++ [s] := by rw [List.take_add_one, h]; rfl
theorem any_noR (r : Int) (l : List (Int × Int)) : l.any (fun s => decide (s.1 = r)) = !noR r l := by
 induction l with
 | nil => rfl
 | cons s l ih =>
  have e : noR r (s :: l) = (decide (s.1 ≠ r) && noR r l) := by simp [noR]
  rw [List.any_cons, ih, e]
  by_cases h : s.1 = r <;> simp [h]
set_option maxRecDepth 100000 in
set_option maxHeartbeats 2000000 in
theorem IndexFunc_any (n : Nat) (c : Value) (p : Int × Int → Bool) (v : Value) (a : List (Int × Int)) (hl : a.length ≤ 1000000) (w : World) (h : Row w.heap.size w v a) (hin : ∀ args w, (callFunc n args).run Tryz.prog w = .ok (.enter n args) w)
 (hp : ∀ (s1 s2 : Int) w1, (s1, s2) ∈ a → Below w.heap.size w w1 → Calls Tryz.prog n #[.agg #[.int .i64 s1, .int .i64 s2], c] w1 fun e w' => e = .returned (.bool (p (s1, s2))) ∧ Below w1.heap.size w1 w') :
 Calls Tryz.prog 114 #[v, .func (.func n) #[] #[c]] w fun e w' => (∃ i : Int, e = .returned (.int .i64 i) ∧ decide (0 ≤ i) = a.any p) ∧ Below w.heap.size w w' := by
 obtain ⟨x, N, cap, rfl, hN', h0, hc1, hc2⟩ := h.opened
 have h' := Lib.hid h
 have hp' := Lib.hid hp
 rw [hN'.out] at hl
 clear h hp
 go_enter Tryz.func114, Tryz.ntmps114
 go_wp2
 go_loopw [8] (fun i wr => ∃ k : Nat, k ≤ N ∧ i = .int .i64 k ∧ Hid ((a.take k).any p = false) ∧ Below w.heap.size w wr)
  (fun i _ => N - (intOf i).toNat)
 case atStart => exact ⟨0, by omega, rfl, Lib.hid (by simp), Below.refl _ _⟩
 case round =>
  obtain ⟨k, hk, rfl, hno, hbw⟩ := hrel
  by_cases hlt : k < N
  · obtain ⟨⟨s1, s2⟩, hs⟩ : ∃ s, a[k]? = some s := ⟨a[k]'(by rw [hN'.out]; exact hlt), List.getElem?_eq_getElem _⟩
    obtain ⟨g, o, rfl, hg, e1, e2⟩ := Row.stop (h'.out.keep hbw (Nat.le_refl _)) hs
    have hcall := hp'.out s1 s2 _ (List.mem_of_getElem? hs) hbw
    have hyes := Lib.hid (fun e : p (s1, s2) = true => (List.any_eq_true.2 ⟨_, List.mem_of_getElem? hs, e⟩ : a.any p = true))
    have hnot := Lib.hid (fun e : p (s1, s2) = false => (by rw [takeA hs, any_snoc, hno.out, e]; rfl : (a.take (k + 1)).any p = false))
    simp at e1 e2
    clear hs hno
    go_wp2_with fail
    refine hcall.mono ?_
    clear hcall e1 e2
    rintro e w2 ⟨rfl, hb2⟩
    have hB2 := hbw.trans (hb2.mono hbw.size)
    clear hb2 hbw
    cases h1 : p (s1, s2)
    · have hn2 := Lib.hid (hnot.out h1)
      clear hyes hnot h1
      go_wp2
      go_roundw
      case rel => exact ⟨k + 1, by omega, by go_num, hn2, hB2⟩
      case measure => simp [intOf]; omega
    · have hn2 := Lib.hid (hyes.out h1)
      clear hyes hnot h1
      go_wp2
      go_ret
      exact ⟨⟨_, rfl, by rw [hn2.out]; simp⟩, hB2⟩
  · obtain rfl : k = N := by omega
    have he : a.take k = a := by rw [← hN'.out, List.take_length]
    rw [he] at hno
    clear he
    go_wp2
    go_ret
    exact ⟨⟨_, rfl, by rw [hno.out]; rfl⟩, hbw⟩
theorem ContainsFunc_any (n : Nat) (c : Value) (p : Int × Int → Bool) (v : Value) (a : List (Int × Int)) (hl : a.length ≤ 1000000) (w : World) (h : Row w.heap.size w v a) (hin : ∀ args w, (callFunc n args).run Tryz.prog w = .ok (.enter n args) w)
 (hp : ∀ (s1 s2 : Int) w1, (s1, s2) ∈ a → Below w.heap.size w w1 → Calls Tryz.prog n #[.agg #[.int .i64 s1, .int .i64 s2], c] w1 fun e w' => e = .returned (.bool (p (s1, s2))) ∧ Below w1.heap.size w1 w') :
 Calls Tryz.prog 104 #[v, .func (.func n) #[] #[c]] w fun e w' => e = .returned (.bool (a.any p)) ∧ Below w.heap.size w w' := by
 have hI := IndexFunc_any n c p v a hl w h hin hp
 obtain ⟨x, N, cap, rfl, hN', h0, hc1, hc2⟩ := h.opened
 clear h hp
 go_enter Tryz.func104, Tryz.ntmps104
 go_wp2_with fail
 refine hI.mono ?_
 clear hI
 rintro e w1 ⟨⟨i, rfl, hi⟩, hb1⟩
 have hi' := Lib.hid hi
 clear hi
 go_wp2
 go_ret
 exact ⟨ret_bool hi'.out, hb1⟩
theorem Has_any (c : Nat) (r : Int) (v : Value) (a : List (Int × Int)) (hl : a.length ≤ 1000000) (w : World) (h : Row w.heap.size w v a) (hc : w.cell? ⟨c, 0, none⟩ = some (.int .i64 r)) (hin : c < w.heap.size) :
 Calls Tryz.prog 104 #[v, .func (.func 105) #[] #[.pointer (some ⟨c, 0, none⟩)]] w fun e w' => e = .returned (.bool (!noR r a)) ∧ Below w.heap.size w w' := by
 rw [← any_noR]
 exact ContainsFunc_any _ _ (fun s => decide (s.1 = r)) v a hl w h closure_in (fun s1 s2 w1 _ hb => closure_any c s1 s2 r w1 ((hb.cell (p := ⟨c, 0, none⟩) hin).trans hc) (Nat.lt_of_lt_of_le hin hb.size))
end Go.Proofs.YteclpblfleakhaaGreatDoor.Ins
namespace Go.Proofs.YteclpblfleakhaaGreatDoor.Route
open Go.RowKit Go.Proofs.YteclpblfleakhaaGreatDoor.Mem
set_option linter.unusedVariables false
theorem keep_any (c : Nat) (s1 s2 r : Int) (w : World) (hc : w.cell? ⟨c, 0, none⟩ = some (.int .i64 r)) (hin : c < w.heap.size) :
 Calls Tryz.prog 36 #[.agg #[.int .i64 s1, .int .i64 s2], .pointer (some ⟨c, 0, none⟩)] w fun e w' => e = .returned (.bool (!(s1 == r))) ∧ Below w.heap.size w w' := by
 have hb0 : Below w.heap.size w (w.alloc (.cells #[.int .i64 s1, .int .i64 s2] 82)) := (Below.refl _ _).alloc (Nat.le_refl _) _
 have hc1 := (hb0.cell (p := ⟨c, 0, none⟩) hin).trans hc
 go_enter Tryz.func36, Tryz.ntmps36
 go_wp2
 go_ret
 exact ⟨ret_bool rfl, hb0⟩
theorem kept_in (args : Array Value) (w : World) : (callFunc 36 args).run Tryz.prog w = .ok (.enter 36 args) w := by
 simp [callFunc, Tryz.func36]
 rfl
set_option maxRecDepth 100000 in
set_option maxHeartbeats 1000000 in
theorem kept_any (v : Value) (l : List (Int × Int)) (c : Nat) (r : Int) (hl : l.length ≤ 1000000) (w : World) (h : Row w.heap.size w v l) (hc : w.cell? ⟨c, 0, none⟩ = some (.int .i64 r)) (hin : c < w.heap.size) :
 Calls Tryz.prog 35 #[v, .func (.func 36) #[] #[.pointer (some ⟨c, 0, none⟩)]] w fun e w' => (∃ v', e = .returned v' ∧ Row w'.heap.size w' v' (woL r l)) ∧ Below w.heap.size w w' := by
 obtain ⟨i0, hi, hz0, hz1, hz2⟩ := info_parts info_stop
 obtain ⟨x, N, cap, rfl, hN', h0', hc1, hc2⟩ := h.opened
 have h' := Lib.hid h
 rw [hN'.out] at hl
 clear h
 have hkin := kept_in
 go_enter Tryz.func35, Tryz.ntmps35
 go_wp2
 go_loopw [5, 10] (fun u i wr => ∃ k : Nat, k ≤ N ∧ i = .int .i64 k ∧ wr.ownsRow w.heap.size 82 2 u (woL r (l.take k)).length (flatS (woL r (l.take k))) ∧ Below w.heap.size w wr)
  (fun _ i _ => N - (intOf i).toNat)
 case atStart => exact ⟨0, by omega, rfl, by simpa [woL, flatS] using World.ownsRow_nil _ _ _ _, Below.refl _ _⟩
 case round =>
  obtain ⟨k, hk, rfl, hown, hbw⟩ := hrel
  by_cases hlt : k < N
  · obtain ⟨⟨s1, s2⟩, hs, _⟩ := drop_get (l := l) (k := k) (by rw [hN'.out]; exact hlt)
    obtain ⟨g, o, rfl, hg, e1, e2⟩ := Row.stop h'.out hs
    have e1 := (hbw.cell (p := ⟨g, o + k * 2, none⟩) hg).trans e1
    have e2 := (hbw.cell (p := ⟨g, o + k * 2 + 1, none⟩) hg).trans e2
    have hcr := (hbw.cell (p := ⟨c, 0, none⟩) hin).trans hc
    simp at e1 e2
    have hyes := Lib.hid (wo_succ_yes (r := r) hs)
    have hno := Lib.hid (wo_succ_no (r := r) hs)
    have hln := wo_take_le r l k
    clear hs
    generalize woL r (l.take k) = L at *
    have hS := At.new wr 82 #[.int .i64 s1, .int .i64 s2]
    have hb1 := hbw.alloc hbw.size (.cells #[.int .i64 s1, .int .i64 s2] 82)
    have ho1 := hown.alloc (.cells #[.int .i64 s1, .int .i64 s2] 82)
    have hsz := hbw.size
    go_wp2_with fail
    generalize (wr.alloc (.cells #[.int .i64 s1, .int .i64 s2] 82)) = w1 at *
    generalize wr.heap.size = q at *
    have hsz1 := hb1.size
    refine (keep_any c s1 s2 r w1 ((hb1.cell (p := ⟨c, 0, none⟩) hin).trans hc) (by omega)).mono ?_
    rintro e w2 ⟨rfl, hb2⟩
    have hB2 := hb1.trans (hb2.mono hsz1)
    have ho2 := owns_below ho1 hb2
    have hS2 := hS.keep hb2 hS.inside
    have hsz2 := hB2.size
    have a0 := hS2.cell 0
    have a1 := hS2.cell 1
    simp at a0 a1
    clear hb2 hb1 ho1 hS hown hbw e1 e2 hcr
    cases h1 : (s1 == r)
    · have hy := Lib.hid (hyes.out (by simpa using h1))
      clear hyes hno
      go_wp2_with (at_builtin; refine wpList_append_own _ rfl _ _ 28 rfl w.heap.size 82 i0 (.agg #[.int .i64 0, .int .i64 0]) 2 16 Tryz.underlying28 hi hz0 hz1 hz2 rfl (by decide) _ _ _ rfl (ho2.alloc _) ⟨w2.heap.size, 0, none⟩ 1 1 [.int .i64 s1, .int .i64 s2] rfl rfl (World.news_of_block (cs := #[.int .i64 s1, .int .i64 s2]) (t := 82) (fr := (0, 0)) (heap_alloc_new w2 _)) (by simp [Value.oneCell']) (by unfold maxLen; omega) (by omega) (by simp; omega) ?_; intro v7 w7 hown7 hgrow7 hnil7)
      have hb7 : Below w.heap.size w w7 := (hB2.alloc hB2.size _).grown hgrow7 (by simp; omega) (owns_row ho2)
      go_roundw
      case rel => exact ⟨k + 1, by omega, by go_num, by rw [hy.out, flatS_snoc, List.length_append]; exact hown7, hb7⟩
      case measure => simp [intOf]; omega
    · have hy := Lib.hid (hno.out (by simpa using h1))
      clear hyes hno
      go_wp2
      go_roundw
      case rel => exact ⟨k + 1, by omega, by go_num, by rw [hy.out]; exact ho2, hB2⟩
      case measure => simp [intOf]; omega
  · obtain rfl : k = N := by omega
    have he : l.take k = l := by rw [← hN'.out, List.take_length]
    rw [he] at hown
    clear he
    have hr := Lib.hid (Row.of_owns (B := wr.heap.size) hown rfl (Nat.le_refl _))
    clear hown
    go_wp2
    go_ret
    exact ⟨⟨_, rfl, hr.out⟩, hbw⟩
theorem Without_any (v : Value) (l : List (Int × Int)) (r : Int) (hl : l.length ≤ 1000000) (w : World) (h : Row w.heap.size w v l) :
 Calls Tryz.prog 22 #[v, .int .i64 r] w fun e w' => (∃ v', e = .returned v' ∧ Row w'.heap.size w' v' (woL r l)) ∧ Below w.heap.size w w' := by
 have hb0 : Below w.heap.size w (w.alloc (.cells #[.int .i64 r] 3)) := (Below.refl _ _).alloc (Nat.le_refl _) _
 have hA := At.new w 3 #[.int .i64 r]
 have hr := h.on hb0
 obtain ⟨x, N, cap, rfl, hN', h0', hc1, hc2⟩ := h.opened
 clear h
 go_enter Tryz.func22, Tryz.ntmps22
 go_wp2_with fail
 refine (kept_any _ l w.heap.size r hl _ hr (by simp) hA.inside).mono ?_
 rintro e w1 ⟨⟨v1, rfl, hr1⟩, hb1⟩
 go_wp2
 go_ret
 exact ⟨⟨_, rfl, hr1⟩, hb0.trans (hb1.mono hb0.size)⟩
end Go.Proofs.YteclpblfleakhaaGreatDoor.Route
namespace Go.Proofs.YteclpblfleakhaaGreatDoor.Route
open Go.RowKit Go.Sort Go.Proofs.YteclpblfleakhaaGreatDoor.Mem
set_option linter.unusedVariables false
theorem slice_len {B : Nat} {W : World} {v : Value} {l : List (Int × Int)} (h : Row B W v l) : ∃ x cap, v = .slice x l.length cap := by
 obtain ⟨x, cap, e, _⟩ := h.slice
 exact ⟨x, cap, e⟩
set_option maxRecDepth 100000 in
set_option maxHeartbeats 2000000 in
theorem With_any (v : Value) (l : List (Int × Int)) (r i j : Int) (hl : l.length ≤ 1000000) (w : World) (h : Row w.heap.size w v l) :
 Calls Tryz.prog 53 #[v, .int .i64 r, .int .i64 i, .int .i64 j] w fun e w' => (∃ v', e = .returned (.tuple #[v', .bool (mayW l r i j)]) ∧ Row w'.heap.size w' v' (withV l r i j) ∧ New w.heap.size v') ∧ Below w.heap.size w w' := by
 have hWo := Without_any v l r hl w h
 obtain ⟨x, N, cap, rfl, hN', h0', hc1, hc2⟩ := h.opened
 have h' := Lib.hid h
 rw [hN'.out] at hl
 clear h
 have hwr : IntKind.i64.wrap ((N : Int) + 2) = (N : Int) + 2 := IntWalk.i64_in _ (by omega)
 have fin : Hid (mayW l r i j = false → ∀ W, Below w.heap.size w W → (∃ v', Ending.returned (.tuple #[.slice none 0 0, .bool false]) = .returned (.tuple #[v', .bool (mayW l r i j)]) ∧ Row W.heap.size W v' (withV l r i j) ∧ New w.heap.size v') ∧ Below w.heap.size w W) :=
  Lib.hid fun hF W hb => ⟨⟨_, ret_vb hF.symm, by rw [with_no hF]; exact RowB.nil _ _ _, New.nil _⟩, hb⟩
 cases c0 : decide ((i : Int) < 0)
 case true =>
  have hF := Lib.hid (may_no (l := l) (r := r) (i := i) (j := j) fun hh => by have := hh.1; simp at c0; omega)
  clear hWo
  go_enter Tryz.func53, Tryz.ntmps53
  go_wp2
  refine bodyPost_ret (v := .tuple #[.slice none 0 0, .bool false]) (by simp [results, Tryz.results53, go_sem]) rfl ?_
  exact fin.out hF.out _ (Below.refl _ _)
 case false =>
 cases c1 : decide (j < i)
 case true =>
  have hF := Lib.hid (may_no (l := l) (r := r) (i := i) (j := j) fun hh => by have := hh.2.1; simp at c1; omega)
  clear hWo
  go_enter Tryz.func53, Tryz.ntmps53
  go_wp2
  refine bodyPost_ret (v := .tuple #[.slice none 0 0, .bool false]) (by simp [results, Tryz.results53, go_sem]) rfl ?_
  exact fin.out hF.out _ (Below.refl _ _)
 case false =>
 cases c2 : decide ((N : Int) < j)
 case true =>
  have hF := Lib.hid (may_no (l := l) (r := r) (i := i) (j := j) fun hh => by have := hh.2.2.1; rw [hN'.out] at this; simp at c2; omega)
  clear hWo
  go_enter Tryz.func53, Tryz.ntmps53
  go_wp2
  refine bodyPost_ret (v := .tuple #[.slice none 0 0, .bool false]) (by simp [results, Tryz.results53, go_sem]) rfl ?_
  exact fin.out hF.out _ (Below.refl _ _)
 case false =>
 cases c3 : decide ((16 : Int) < (N : Int) + 2)
 case true =>
  have hF := Lib.hid (may_no (l := l) (r := r) (i := i) (j := j) fun hh => by have := hh.2.2.2.2.1; rw [hN'.out] at this; simp at c3; omega)
  clear hWo
  go_enter Tryz.func53, Tryz.ntmps53
  go_wp2
  refine bodyPost_ret (v := .tuple #[.slice none 0 0, .bool false]) (by simp [results, Tryz.results53, go_sem]) rfl ?_
  exact fin.out hF.out _ (Below.refl _ _)
 case false =>
 cases c4 : decide (r < 0)
 case true =>
  have hF := Lib.hid (may_no (l := l) (r := r) (i := i) (j := j) fun hh => by have := hh.2.2.2.1; simp at c4; omega)
  clear hWo
  go_enter Tryz.func53, Tryz.ntmps53
  go_wp2
  refine bodyPost_ret (v := .tuple #[.slice none 0 0, .bool false]) (by simp [results, Tryz.results53, go_sem]) rfl ?_
  exact fin.out hF.out _ (Below.refl _ _)
 case false =>
 obtain ⟨I, rfl⟩ : ∃ I : Nat, i = I := ⟨i.toNat, by simp at c0; omega⟩
 obtain ⟨J, rfl⟩ : ∃ J : Nat, j = J := ⟨j.toNat, by simp at c1; omega⟩
 have hIJ : I ≤ J := by simp at c1; omega
 have hJ : J ≤ N := by simp at c2; omega
 have h14 : N + 2 ≤ 16 := by simp at c3; omega
 have hr0 : 0 ≤ r := by simp at c4; omega
 have c1' : decide (J < I) = false := by simp; omega
 have c2' : decide (N < J) = false := by simp; omega
 obtain ⟨M, hM⟩ : ∃ M, (woL r l).length = M := ⟨_, rfl⟩
 have hM' := Lib.hid hM
 clear hM c0 c1 c2
 by_cases hless : M < N
 · have hF := Lib.hid (may_no (l := l) (r := r) (i := I) (j := J) fun hh => by have h1 := wo_less.1 (show (woL r l).length < l.length by rw [hM'.out, hN'.out]; exact hless); rw [hh.2.2.2.2.2] at h1; cases h1)
   go_enter Tryz.func53, Tryz.ntmps53
   go_wp2_with fail
   refine hWo.mono ?_
   rintro e w1 ⟨⟨v1, rfl, hv1⟩, hb1⟩
   obtain ⟨y, cy, rfl⟩ := slice_len hv1
   rw [hM'.out]
   clear hv1 hWo
   go_wp2
   refine bodyPost_ret (v := .tuple #[.slice none 0 0, .bool false]) (by simp [results, Tryz.results53, go_sem]) rfl ?_
   exact fin.out hF.out _ hb1
 · have hT := Lib.hid (mayW_iff (l := l) (r := r) (i := I) (j := J) |>.2 ⟨by omega, by omega, by rw [hN'.out]; omega, hr0, by rw [hN'.out]; omega, by
    cases hn : noR r l
    · have h1 := wo_less.2 hn
      rw [hM'.out, hN'.out] at h1
      exact absurd h1 hless
    · rfl⟩)
   have hput := Lib.hid (put_put (l := l) (i := I) (j := J) hIJ (by rw [hN'.out]; exact hJ) r)
   have hW := Lib.hid (with_yes hT.out)
   go_enter Tryz.func53, Tryz.ntmps53
   go_wp2_with fail
   refine hWo.mono ?_
   rintro e w1 ⟨⟨v1, rfl, hv1⟩, hb1⟩
   obtain ⟨y, cy, rfl⟩ := slice_len hv1
   rw [hM'.out]
   have hsz1 := hb1.size
   have hR1 := Lib.hid ((h'.out.keep hb1 (Nat.le_refl _)).more hsz1)
   clear hv1 hWo
   go_wp2_with fail
   refine (lengthened_any _ l J r 1 (by rw [hN'.out]; exact hl) (by rw [hN'.out]; exact hJ) w1 hR1.out).mono ?_
   rintro e w2 ⟨⟨v2, rfl, hv2, _⟩, hb2⟩
   have hB2 := hb1.trans (hb2.mono hsz1)
   have hv2' := Lib.hid hv2
   clear hv2 hb2 hb1
   go_wp2_with fail
   refine (lengthened_any v2 (putL l J (r, 1)) I r 0 (by rw [putL_length, hN'.out]; omega) (by rw [putL_length, hN'.out]; omega) w2 hv2'.out).mono ?_
   rintro e w3 ⟨⟨v3, rfl, hv3, hnw⟩, hb3⟩
   rw [hput.out] at hv3
   have hB3 := hB2.trans (hb3.mono hB2.size)
   have hv3' := Lib.hid hv3
   have hnw' := Lib.hid (hnw.more hB2.size)
   clear hv3 hb3 hB2 hnw
   go_wp2
   refine bodyPost_ret (v := .tuple #[_, .bool true]) (by simp [results, Tryz.results53, go_sem]; rfl) rfl ?_
   exact ⟨⟨_, ret_vb hT.out.symm, by rw [hW.out]; exact hv3'.out, hnw'.out⟩, hB3⟩
end Go.Proofs.YteclpblfleakhaaGreatDoor.Route
namespace Go.Proofs.YteclpblfleakhaaGreatDoor.Ins
open Go.RowKit Go.Proofs.YteclpblfleakhaaGreatDoor.Mem Go.Proofs.YteclpblfleakhaaGreatDoor.Route Go.Proofs.YteclpblfleakhaaGreatDoor.When Go.Proofs.YteclpblfleakhaaGreatDoor.Load
set_option linter.unusedVariables false
theorem ret_w {u u2 : Value} {a b c d : Int} (h0 : u = u2) (h : a = b) (h2 : c = d) : Ending.returned (.tuple #[u, .int .i64 a, .int .i64 c]) = .returned (.tuple #[u2, .int .i64 b, .int .i64 d]) := by rw [h0, h, h2]
def WithOk (W : World) (u : Value) (v : Vh) (l : List (Int × Int)) (t : List Rq) (r i j : Int) : Prop :=
 if withE v l t r i j = 0 then Row W.heap.size W u (moreL l r i j) else u = .slice none 0 0
def endW (v : Vh) (l : List (Int × Int)) (t : List Rq) (r i j : Int) : Int := if withE v l t r i j = 0 then homeT v l t else 0
theorem WithOk.no {W : World} {v : Vh} {l : List (Int × Int)} {t : List Rq} {r i j : Int} (h : withE v l t r i j ≠ 0) : WithOk W (.slice none 0 0) v l t r i j := by unfold WithOk; rw [if_neg h]
theorem WithOk.yes {W : World} {u : Value} {v : Vh} {l : List (Int × Int)} {t : List Rq} {r i j : Int} (h : withE v l t r i j = 0) (hr : Row W.heap.size W u (moreL l r i j)) : WithOk W u v l t r i j := by unfold WithOk; rw [if_pos h]; exact hr
theorem endW_no {v : Vh} {l : List (Int × Int)} {t : List Rq} {r i j : Int} (h : withE v l t r i j ≠ 0) : endW v l t r i j = 0 := by unfold endW; rw [if_neg h]
theorem endW_yes {v : Vh} {l : List (Int × Int)} {t : List Rq} {r i j : Int} (h : withE v l t r i j = 0) : endW v l t r i j = homeT v l t := by unfold endW; rw [if_pos h]
set_option maxRecDepth 100000 in
set_option maxHeartbeats 4000000 in
theorem with_any (v : Vh) (vl vt : Value) (l : List (Int × Int)) (t : List Rq) (hl : l.length ≤ 1000000) (hnum : Nums l) (r i j : Int) (w : World) (hL : Row w.heap.size w vl l) (hT : Rqs w.heap.size w vt t) :
 Calls Tryz.prog 91 #[.agg #[.int .i64 v.hx, .int .i64 v.hy, .int .i64 v.cp, .int .i64 v.st, .int .i64 v.en], vl, vt, .int .i64 r, .int .i64 i, .int .i64 j] w fun e w' =>
  (∃ u, e = .returned (.tuple #[u, .int .i64 (endW v l t r i j), .int .i64 (withE v l t r i j)]) ∧ WithOk w' u v l t r i j) ∧ Below w.heap.size w w' := by
 obtain ⟨w0, hw0⟩ : ∃ w0, (w.alloc (.cells #[.int .i64 v.hx, .int .i64 v.hy, .int .i64 v.cp, .int .i64 v.st, .int .i64 v.en] 32)).alloc (.cells #[.int .i64 r] 3) = w0 := ⟨_, rfl⟩
 obtain ⟨q, hq⟩ : ∃ q, w.heap.size = q := ⟨_, rfl⟩
 have hB0 : Below q w w0 := by rw [← hw0]; exact ((Below.refl _ _).alloc (by omega) _).alloc (by simp; omega) _
 have hP : At w0 q 32 #[.int .i64 v.hx, .int .i64 v.hy, .int .i64 v.cp, .int .i64 v.st, .int .i64 v.en] := by rw [← hw0]; exact (At.new_ _ _ _ hq.symm).alloc _
 have hR : At w0 (q + 1) 3 #[.int .i64 r] := by rw [← hw0]; exact At.new_ _ _ _ (by simp [hq])
 rw [hq] at hL hT
 have hs0 : q + 1 < w0.heap.size := hR.inside
 have hrc := hR.cell 0
 simp at hrc
 have hHas := Has_any (q + 1) r vl l hl w0 ((hL.keep hB0 (Nat.le_refl _)).more (by omega)) hrc hs0
 obtain ⟨xl, Nl, capl, rfl, hNl, hl0, hlc1, hlc2⟩ := hL.opened
 obtain ⟨xt, Nt, capt, rfl, hNt0, htc1, htc2, ht0⟩ := hT.opened
 have hNt := Lib.hid hNt0
 unfold maxLen at hlc2 htc2
 have hL' := Lib.hid hL
 have hT' := Lib.hid hT
 have hl' := Lib.hid hl
 have hnum' := Lib.hid hnum
 have hP' := Lib.hid hP
 have hR' := Lib.hid hR
 have hB0' := Lib.hid hB0
 clear hL hT hNt0 ht0 hl0 hl hnum hP hR hB0
 by_cases h1 : r < 0
 · have he := Lib.hid (withE_req (v := v) (l := l) (t := t) (r := r) (i := i) (j := j) (by simp [inT]; omega))
   clear hHas
   go_enter Tryz.func91, Tryz.ntmps91
   go_wp2
   refine bodyPost_ret (v := .tuple #[.slice none 0 0, .int .i64 0, .int .i64 8]) (by simp [results, Tryz.results91, go_sem]) rfl ?_
   try simp only [hq]
   exact ⟨⟨_, ret_w rfl (endW_no (by rw [he.out]; omega)).symm he.out.symm, WithOk.no (by rw [he.out]; omega)⟩, by first | exact hB0'.out | (rw [hq]; exact hB0'.out)⟩
 by_cases h2 : (Nt : Int) ≤ r
 · have he := Lib.hid (withE_req (v := v) (l := l) (t := t) (r := r) (i := i) (j := j) (by have := hNt.out; simp [inT]; omega))
   clear hHas
   go_enter Tryz.func91, Tryz.ntmps91
   go_wp2
   refine bodyPost_ret (v := .tuple #[.slice none 0 0, .int .i64 0, .int .i64 8]) (by simp [results, Tryz.results91, go_sem]) rfl ?_
   try simp only [hq, hw0]
   exact ⟨⟨_, ret_w rfl (endW_no (by rw [he.out]; omega)).symm he.out.symm, WithOk.no (by rw [he.out]; omega)⟩, by first | exact hB0'.out | (rw [hq]; exact hB0'.out)⟩
 have hin : Hid (inT t r = true) := Lib.hid (inT_iff.2 ⟨by omega, by rw [hNt.out]; omega⟩)
 go_enter Tryz.func91, Tryz.ntmps91
 go_wp2_with fail
 try simp only [hq, hw0]
 refine hHas.mono ?_
 clear hHas
 rintro e w1 ⟨rfl, hb1⟩
 have hB1 := hB0'.out.trans (hb1.mono (by omega : q ≤ w0.heap.size))
 have hP1 := Lib.hid (hP'.out.keep hb1 (by omega))
 have hR1 := Lib.hid (hR'.out.keep hb1 (by omega))
 have hs1 : q + 1 < w1.heap.size := hR1.out.inside
 have hB1' := Lib.hid hB1
 clear hb1 hB1 hrc hs0
 cases hno : noR r l
 · have he := Lib.hid (withE_req (v := v) (l := l) (t := t) (r := r) (i := i) (j := j) (by rw [hno, Bool.and_false]))
   clear hno
   go_wp2
   refine bodyPost_ret (v := .tuple #[.slice none 0 0, .int .i64 0, .int .i64 8]) (by simp [results, Tryz.results91, go_sem]) rfl ?_
   exact ⟨⟨_, ret_w rfl (endW_no (by rw [he.out]; omega)).symm he.out.symm, WithOk.no (by rw [he.out]; omega)⟩, by first | exact hB1'.out | (rw [hq]; exact hB1'.out)⟩
 have hto : Hid ((inT t r && noR r l) = true) := Lib.hid (by rw [hin.out, hno]; rfl)
 clear hno
 have hTi := Times_all v _ _ l t hl'.out hnum'.out w1 ((hL'.out.keep hB1'.out (Nat.le_refl _)).more (by omega)) ((hT'.out.keep hB1'.out (Nat.le_refl _)).more (by omega))
 have p0 := hP1.out.cell 0
 have p1 := hP1.out.cell 1
 have p2 := hP1.out.cell 2
 have p3 := hP1.out.cell 3
 have p4 := hP1.out.cell 4
 simp at p0 p1 p2 p3 p4
 obtain ⟨E, hE⟩ : ∃ E, errT v l t = E := ⟨_, rfl⟩
 obtain ⟨H, hH⟩ : ∃ H, homeT v l t = H := ⟨_, rfl⟩
 rw [hE, hH] at hTi
 have hE' := Lib.hid hE
 have hH' := Lib.hid hH
 clear hE hH
 go_wp2_with fail
 refine hTi.mono ?_
 clear hTi
 rintro e w2 ⟨⟨u, rfl, hu, _⟩, hb2⟩
 have hB2' := Lib.hid (hB1'.out.trans (hb2.mono (by omega : q ≤ w1.heap.size)))
 have hR2 := Lib.hid (hR1.out.keep hb2 (by omega))
 have hs2 : q + 1 < w2.heap.size := hR2.out.inside
 clear hu hb2 p0 p1 p2 p3 p4
 cases he0 : (E == 0)
 · have he1 : (E != 0) = true := by simpa using he0
   have he := Lib.hid (withE_err (i := i) (j := j) hto.out (by rw [hE'.out]; simpa using he0))
   rw [hE'.out] at he
   have hne : Hid (E ≠ 0) := Lib.hid (by simpa using he0)
   go_wp2
   refine bodyPost_ret (v := .tuple #[.slice none 0 0, .int .i64 0, .int .i64 E]) (by simp [results, Tryz.results91, go_sem]) rfl ?_
   exact ⟨⟨_, ret_w rfl (endW_no (by rw [he.out]; exact hne.out)).symm he.out.symm, WithOk.no (by rw [he.out]; exact hne.out)⟩, by first | exact hB2'.out | (rw [hq]; exact hB2'.out)⟩
 have he1 : (E != 0) = false := by simpa using he0
 have hz : Hid (errT v l t = 0) := Lib.hid (by rw [hE'.out]; simpa using he0)
 by_cases h3 : 14 < Nl
 · have he := Lib.hid (withE_count (i := i) (j := j) hto.out hz.out (by rw [hNl.out]; exact h3))
   have hn16 := (times_ok (When.errT_zero hz.out).1).2.2.1
   rw [hNl.out] at hn16
   go_wp2
   refine bodyPost_ret (v := .tuple #[.slice none 0 0, .int .i64 0, .int .i64 11]) (by simp [results, Tryz.results91, go_sem]) rfl ?_
   exact ⟨⟨_, ret_w rfl (endW_no (by rw [he.out]; omega)).symm he.out.symm, WithOk.no (by rw [he.out]; omega)⟩, by first | exact hB2'.out | (rw [hq]; exact hB2'.out)⟩
 have h3' : Hid (¬ 14 < l.length) := Lib.hid (by rw [hNl.out]; exact h3)
 have hmw : Hid (mayW l r i j = placesB l.length i j) := Lib.hid (mayW_places hto.out h3'.out)
 have hWi := With_any _ l r i j hl'.out w2 ((hL'.out.keep hB2'.out (Nat.le_refl _)).more (by omega))
 rw [hmw.out] at hWi
 have hrc2 := hR2.out.cell 0
 simp at hrc2
 obtain ⟨b, hb⟩ : ∃ b, placesB l.length i j = b := ⟨_, rfl⟩
 rw [hb] at hWi
 have hb' := Lib.hid hb
 clear hb
 go_wp2_with fail
 refine hWi.mono ?_
 clear hWi
 rintro e w3 ⟨⟨u3, rfl, hu3, _⟩, hb3⟩
 have hB3' := Lib.hid (hB2'.out.trans (hb3.mono (by omega : q ≤ w2.heap.size)))
 have hu3' := Lib.hid hu3
 clear hu3 hb3 hrc2
 cases b
 · have he := Lib.hid (withE_place hto.out hz.out h3'.out hb'.out)
   go_wp2
   refine bodyPost_ret (v := .tuple #[.slice none 0 0, .int .i64 0, .int .i64 8]) (by simp [results, Tryz.results91, go_sem]) rfl ?_
   exact ⟨⟨_, ret_w rfl (endW_no (by rw [he.out]; omega)).symm he.out.symm, WithOk.no (by rw [he.out]; omega)⟩, by first | exact hB3'.out | (rw [hq]; exact hB3'.out)⟩
 · have he := Lib.hid (withE_ok hto.out hz.out h3'.out hb'.out)
   have hfin : Hid (WithOk w3 u3 v l t r i j) := Lib.hid (WithOk.yes he.out (by have := hu3'.out; rwa [withV_more (by rw [hmw.out]; exact hb'.out)] at this))
   obtain ⟨xu, Nu, cu, rfl, -⟩ := hu3'.out.opened
   go_wp2
   refine bodyPost_ret (v := .tuple #[.slice xu Nu cu, .int .i64 H, .int .i64 0]) (by simp [results, Tryz.results91, go_sem]) rfl ?_
   exact ⟨⟨_, ret_w rfl (by rw [endW_yes he.out, hH'.out]) he.out.symm, hfin.out⟩, by first | exact hB3'.out | (rw [hq]; exact hB3'.out)⟩
end Go.Proofs.YteclpblfleakhaaGreatDoor.Ins
namespace Go.Proofs.YteclpblfleakhaaGreatDoor.Sched
open Go.Proofs.YteclpblfleakhaaGreatDoor.Tail (Fit least)
def okA (l : List Oper) : Bool := (List.range l.length).all fun j => ((l[j]?).map fun o => o.after.toList.all fun e => !Region.binds .any e || decide (e.on < j)).getD false
def OkA (l : List Oper) : Prop := ∀ j o, l[j]? = some o → ∀ e ∈ o.after, Region.binds .any e = true → e.on < j
theorem okA_of {l : List Oper} (h : okA l = true) : OkA l := by
 intro j o ho e he hb
 unfold okA at h
 rw [List.all_eq_true] at h
 have h2 := h j (List.mem_range.2 (List.getElem?_eq_some_iff.1 ho).1)
 rw [ho] at h2
 simp only [Option.map_some, Option.getD_some, List.all_eq_true, Bool.or_eq_true, Bool.not_eq_true', decide_eq_true_eq] at h2
 rcases h2 e (by simpa using he) with h6 | h6
 · rw [hb] at h6; cases h6
 · exact h6
variable {P : Program} {l : List Oper} {n : Nat} {Q : Exit → Act → World → Prop}
variable {Ext : World → World → Prop} {V : Nat → Value → World → Prop} {Z : (Nat → Bool) → (Nat → Value) → World → Prop} {w0 : World} {a0 : Act}
theorem schedA_any (hn : n = l.length) (hk : OkA l) (hseq : Region.seqB .any l.toArray (l.length - n) n (Array.replicate n true ++ Array.replicate (l.length - n) false) = true) (hA : apartB (l.take n) = true) (htr : ∀ {a b c}, Ext a b → Ext b c → Ext a c) (hV : ∀ {k v w w'}, V k v w → Ext w w' → V k v w') (hS : Steps P l n Q Ext V Z w0 a0 0 (l.take n))
 (hQ : ∀ ys w, Ext w0 w → (∀ i, i < n → V i (ys i) w) → (∃ done : Nat → Bool, (∀ i, i < n → done i = true) ∧ Z done ys w) → wpList P l.toArray Q (l.drop n) (fill 0 (l.take n) ys a0) w) :
 ∀ (fuel : Nat) (lh la : Array Bool) (ys : Nat → Value) (w : World), Ext w0 w → (∀ i, i < n → lh.getD i false = true → V i (ys i) w) → Z (fun i => lh.getD i false) ys w → Fit l n lh la → lh.toList.count false = fuel →
  wpAny P .any l.toArray Q (fuel + (l.length - n)) la (fill 0 (l.take n) ys a0) w
 | 0, lh, la, ys, w, hE, hF, hZ, hf, hc => by
  have hall' : ∀ j, j < n → lh[j]? = some true := by
   intro j hj
   have hlt : j < lh.size := by rw [hf.size]; exact hj
   rw [Array.getElem?_eq_getElem hlt]
   cases hb : lh[j]
   · exfalso
     have : false ∈ lh.toList := by rw [← hb]; simp
     have := List.count_pos_iff.2 this
     omega
   · rfl
  have hall : ∀ j, j < n → la[j]? = some true := fun j hj => by rw [hf.same j hj]; exact hall' j hj
  have hla : la = Array.replicate n true ++ Array.replicate (l.length - n) false := by
   apply Array.ext_getElem?
   intro j
   by_cases h1 : j < n
   · rw [hall j h1, Array.getElem?_append_left (by simpa using h1)]
     simp [h1]
   · rw [Array.getElem?_append_right (by simpa using (by omega : n ≤ j))]
     by_cases h2 : j < l.length
     · rw [hf.rest j (by omega) h2, Array.getElem?_replicate]
       simp
       omega
     · rw [Array.getElem?_eq_none (by rw [hf.sizeAll]; omega), Array.getElem?_eq_none (by simp; omega)]
  subst hla
  have hd : ∀ i, i < n → lh.getD i false = true := fun i hi => by rw [Array.getD_eq_getD_getElem?, hall' i hi]; rfl
  have := wpAny_of_seq (P := P) (md := .any) (ops := l.toArray) (Q' := Q) (l.drop n) n (Array.replicate n true ++ Array.replicate (l.length - n) false) (fill 0 (l.take n) ys a0) w (fun j => by simp [List.getElem?_drop]) (by simpa using hseq)
   (hQ ys w hE (fun i hi => hF i hi (hd i hi)) ⟨_, hd, hZ⟩)
  simpa using this
 | fuel + 1, lh, la, ys, w, hE, hF, hZ, hf, hc => by
  have hsome : ∃ j, j < n ∧ lh.getD j true = false := by
   have : false ∈ lh.toList := List.count_pos_iff.1 (by omega)
   obtain ⟨j, hj, hb⟩ := List.getElem_of_mem this
   have hj' : j < lh.size := by simpa using hj
   refine ⟨j, by rw [← hf.size]; exact hj', ?_⟩
   simp only [Array.getElem_toList] at hb
   simp [hj', hb]
  have hgd : ∀ j, j < n → la.getD j true = lh.getD j true := fun j hj => by
   have := hf.same j hj
   rw [Array.getD_eq_getD_getElem?, Array.getD_eq_getD_getElem?, this]
  have hgd' : ∀ j, j < n → la.getD j false = lh.getD j false := fun j hj => by
   have := hf.same j hj
   rw [Array.getD_eq_getD_getElem?, Array.getD_eq_getD_getElem?, this]
  have hboth : ∀ j, j < n → lh.getD j false = lh.getD j true := fun j hj => by
   have hlt : j < lh.size := by rw [hf.size]; exact hj
   simp [hlt]
  obtain ⟨j, hj, hpj, hmin⟩ := least (p := fun j => lh.getD j true) n hsome
  have hready : j ∈ Region.ready .any l.toArray la := by
   rw [mem_ready]
   obtain ⟨o, ho⟩ : ∃ o, l[j]? = some o := ⟨l[j]'(by omega), List.getElem?_eq_getElem (by omega)⟩
   refine ⟨by rw [hgd j hj]; exact hpj, o, by simpa using ho, fun e he hbb => ?_⟩
   have h1 := hk j o ho e he hbb
   rw [hgd' _ (by omega), hboth _ (by omega)]
   exact hmin _ h1
  have key : (Region.ready .any l.toArray la = [] → Q .normal (fill 0 (l.take n) ys a0) w) ∧ ∀ i ∈ Region.ready .any l.toArray la, wpOp P l.toArray Q i (wpAny P .any l.toArray Q (fuel + (l.length - n)) (la.setIfInBounds i true)) (fill 0 (l.take n) ys a0) w := by
   refine ⟨fun h0 => (by rw [h0] at hready; cases hready), fun i hi => ?_⟩
   rw [mem_ready] at hi
   obtain ⟨hi0, o, ho, hall⟩ := hi
   have ho' : l[i]? = some o := by simpa using ho
   have hin : i < n := by
    have := (List.getElem?_eq_some_iff.1 ho').1
    omega
   have hlti : i < lh.size := by rw [hf.size]; exact hin
   have hfi : lh.getD i false = false := by rw [hboth i hin, ← hgd i hin]; exact hi0
   have ho1 : (l.take n)[i]? = some o := by simp [hin, ho']
   have hst := hS.at ho1 ys (fun i => lh.getD i false) w hE (by simpa using hfi) hF (fun m hm => by
    rw [List.any_eq_true] at hm
    obtain ⟨e, he, hb⟩ := hm
    simp only [Bool.and_eq_true, beq_iff_eq] at hb
    have he' : e ∈ o.after := by simpa using he
    have h1 := hk i o ho' e he' hb.1
    have h2 := hall e he' hb.1
    rw [hgd' _ (by omega)] at h2
    show lh.getD m false = true
    rw [← hb.2]; exact h2) hZ
   simp only [Nat.zero_add] at hst
   refine wpOp_mono (fun a' w' hK => ?_) (wpOp_of_list ho hst)
   obtain ⟨v, rfl, hE', hv, hZ'⟩ := hK
   rw [fill_upd hA ho1, Nat.zero_add]
   have hset : ∀ m, (lh.setIfInBounds i true).getD m false = if m = i then true else lh.getD m false := by
    intro m
    rw [Array.getD_eq_getD_getElem?, Array.getElem?_setIfInBounds]
    by_cases hm : i = m
    · subst hm; simp [hlti]
    · rw [if_neg hm, if_neg (fun e => hm e.symm), Array.getD_eq_getD_getElem?]
   refine schedA_any hn hk hseq hA htr hV hS hQ fuel _ _ (upd ys i v) w' (htr hE hE') (fun m hm ht => ?_) ?_ (hf.set hin (fun o1 ho1 e he hb => by rw [ho'] at ho1; cases ho1; exact hall e he hb)) ?_
   · rw [hset] at ht
     by_cases hmi : m = i
     · subst hmi; simpa [upd] using hv
     · rw [if_neg hmi] at ht
       simp only [upd, if_neg hmi]
       exact hV (hF m hm ht) hE'
   · have : (fun m => (lh.setIfInBounds i true).getD m false) = mark (fun m => lh.getD m false) i := funext hset
     rw [this]; exact hZ'
   · have hlt : i < lh.toList.length := by simpa using hlti
     have hfalse : lh.toList[i] = false := by
      have h2 : lh.getD i true = false := by rw [← hgd i hin]; exact hi0
      simpa [hlti] using h2
     rw [Array.toList_setIfInBounds, List.count_set hlt, hfalse, hc]
     simp
  rw [show fuel + 1 + (l.length - n) = (fuel + (l.length - n)) + 1 by omega]
  exact key
theorem wp_region_schedA {id : Nat} {a : Act} {w : World} (n : Nat) (Ext : World → World → Prop) (V : Nat → Value → World → Prop) (Z : (Nat → Bool) → (Nat → Value) → World → Prop)
 (hn : n = l.length) (hm : P.follows .mixedOrders = true) (hT : okA l = true) (hseq : Region.seqB .any l.toArray (l.length - n) n (Array.replicate n true ++ Array.replicate (l.length - n) false) = true) (hA : apartB (l.take n) = true)
 (htr : ∀ {a b c}, Ext a b → Ext b c → Ext a c) (hV : ∀ {k v w w'}, V k v w → Ext w w' → V k v w') (h0 : Ext w { w with drawn := w.drawn + 1 }) (hZ : ∀ ys, Z (fun _ => false) ys { w with drawn := w.drawn + 1 })
 (hS : Steps P l n Q Ext V Z w a 0 (l.take n))
 (hQ : ∀ ys w', Ext w w' → (∀ i, i < n → V i (ys i) w') → (∃ done : Nat → Bool, (∀ i, i < n → done i = true) ∧ Z done ys w') → wpList P l.toArray Q (l.drop n) (fill 0 (l.take n) ys a) w') : (Code.region id l.toArray true).wp P Q a w := by
 have hk := okA_of hT
 refine wp_region_any hm ?_
 obtain ⟨ys, hy⟩ := fill_self (l.take n) 0 a
 have hd : ∀ i, (Array.replicate n false).getD i false = false := fun i => by rw [Array.getD_eq_getD_getElem?, Array.getElem?_replicate]; split <;> rfl
 have h2 := schedA_any (P := P) (Q := Q) (w0 := w) (Ext := Ext) (V := V) (Z := Z) (a0 := a) hn hk hseq hA htr hV hS hQ n (Array.replicate n false) (Array.replicate l.length false) ys { w with drawn := w.drawn + 1 } h0
  (fun i _ h => by rw [hd] at h; cases h) (by rw [show (fun i => (Array.replicate n false).getD i false) = fun _ => false from funext hd]; exact hZ ys)
  ⟨by simp, by simp, fun j hj => by rw [Array.getElem?_replicate, Array.getElem?_replicate, if_pos hj, if_pos (by omega)], fun j h1 h2 => by simp [h2], fun j o hj ht => by rw [Array.getElem?_replicate] at ht; split at ht <;> cases ht⟩ (by simp)
 rw [hy, show n + (l.length - n) = l.length by omega] at h2
 simpa using h2
end Go.Proofs.YteclpblfleakhaaGreatDoor.Sched

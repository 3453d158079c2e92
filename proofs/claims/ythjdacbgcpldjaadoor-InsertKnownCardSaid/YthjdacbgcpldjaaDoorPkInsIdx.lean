import Derived.Test.YthjdacbgcpldjaaDoorPkWhenTrip
import Derived.Test.YthjdacbgcpldjaaDoorPkPlaceDist

/-
  The contracts of slices.IndexFunc and slices.ContainsFunc over stops, and of the closure that package insert hands them.
-/
namespace Go.Proofs.YthjdacbgcpldjaaDoor.Ins
open Go.RowKit Go.Proofs.YthjdacbgcpldjaaDoor.Mem Go.Proofs.YthjdacbgcpldjaaDoor.Route Go.Proofs.YthjdacbgcpldjaaDoor.When Go.Proofs.YthjdacbgcpldjaaDoor.Load
set_option linter.unusedVariables false

theorem closure_any (c : Nat) (s1 s2 r : Int) (w : World) (hc : w.cell? ⟨c, 0, none⟩ = some (.int .i64 r)) (hin : c < w.heap.size) :
    Calls Tryd.prog 54 #[.agg #[.int .i64 s1, .int .i64 s2], .pointer (some ⟨c, 0, none⟩)] w fun e w' => e = .returned (.bool (decide (s1 = r))) ∧ Below w.heap.size w w' := by
  have hb0 : Below w.heap.size w (w.alloc (.cells #[.int .i64 s1, .int .i64 s2] 66)) := (Below.refl _ _).alloc (Nat.le_refl _) _
  have hc1 := (hb0.cell (p := ⟨c, 0, none⟩) hin).trans hc
  go_enter Tryd.func54, Tryd.ntmps54
  go_wp2
  go_ret
  exact ⟨ret_bool (by first | rfl | simp), hb0⟩

theorem closure_in (args : Array Value) (w : World) : (callFunc 54 args).run Tryd.prog w = .ok (.enter 54 args) w := by
  simp [callFunc, Tryd.func54]
  rfl

theorem any_snoc {α : Type} (p : α → Bool) (l : List α) (x : α) : (l ++ [x]).any p = (l.any p || p x) := by simp
theorem takeA {α : Type} {l : List α} {k : Nat} {s : α} (h : l[k]? = some s) : l.take (k + 1) = l.take k ++ [s] := by rw [List.take_add_one, h]; rfl
theorem any_noR (r : Int) (l : List (Int × Int)) : l.any (fun s => decide (s.1 = r)) = !noR r l := by
  induction l with
  | nil => rfl
  | cons s l ih =>
    have e : noR r (s :: l) = (decide (s.1 ≠ r) && noR r l) := by simp [noR]
    rw [List.any_cons, ih, e]
    by_cases h : s.1 = r <;> simp [h]

set_option maxRecDepth 100000 in
set_option maxHeartbeats 2000000 in
theorem IndexFunc_any (n : Nat) (c : Value) (p : Int × Int → Bool) (v : Value) (a : List (Int × Int)) (hl : a.length ≤ 1000000) (w : World) (h : Row w.heap.size w v a) (hin : ∀ args w, (callFunc n args).run Tryd.prog w = .ok (.enter n args) w)
    (hp : ∀ (s1 s2 : Int) w1, (s1, s2) ∈ a → Below w.heap.size w w1 → Calls Tryd.prog n #[.agg #[.int .i64 s1, .int .i64 s2], c] w1 fun e w' => e = .returned (.bool (p (s1, s2))) ∧ Below w1.heap.size w1 w') :
    Calls Tryd.prog 78 #[v, .func (.func n) #[] #[c]] w fun e w' => (∃ i : Int, e = .returned (.int .i64 i) ∧ decide (0 ≤ i) = a.any p) ∧ Below w.heap.size w w' := by
  obtain ⟨x, N, cap, rfl, hN', h0, hc1, hc2⟩ := h.opened
  have h' := Lib.hid h
  have hp' := Lib.hid hp
  rw [hN'.out] at hl
  clear h hp
  go_enter Tryd.func78, Tryd.ntmps78
  go_wp2
  go_loopw [8] (fun i wr => ∃ k : Nat, k ≤ N ∧ i = .int .i64 k ∧ Hid ((a.take k).any p = false) ∧ Below w.heap.size w wr)
    (fun i _ => N - (intOf i).toNat)
  case atStart => exact ⟨0, by omega, rfl, Lib.hid (by simp), Below.refl _ _⟩
  case round =>
    obtain ⟨k, hk, rfl, hno, hbw⟩ := hrel
    by_cases hlt : k < N
    · obtain ⟨⟨s1, s2⟩, hs⟩ : ∃ s, a[k]? = some s := ⟨a[k]'(by rw [hN'.out]; exact hlt), List.getElem?_eq_getElem _⟩
      obtain ⟨g, o, rfl, hg, e1, e2⟩ := Row.stop (h'.out.keep hbw (Nat.le_refl _)) hs
      have hcall := hp'.out s1 s2 _ (List.mem_of_getElem? hs) hbw
      have hyes := Lib.hid (fun e : p (s1, s2) = true => (List.any_eq_true.2 ⟨_, List.mem_of_getElem? hs, e⟩ : a.any p = true))
      have hnot := Lib.hid (fun e : p (s1, s2) = false => (by rw [takeA hs, any_snoc, hno.out, e]; rfl : (a.take (k + 1)).any p = false))
      simp at e1 e2
      clear hs hno
      go_wp2_with fail
      refine hcall.mono ?_
      clear hcall e1 e2
      rintro e w2 ⟨rfl, hb2⟩
      have hB2 := hbw.trans (hb2.mono hbw.size)
      clear hb2 hbw
      cases h1 : p (s1, s2)
      · have hn2 := Lib.hid (hnot.out h1)
        clear hyes hnot h1
        go_wp2
        go_roundw
        case rel => exact ⟨k + 1, by omega, by go_num, hn2, hB2⟩
        case measure => simp [intOf]; omega
      · have hn2 := Lib.hid (hyes.out h1)
        clear hyes hnot h1
        go_wp2
        go_ret
        exact ⟨⟨_, rfl, by rw [hn2.out]; simp⟩, hB2⟩
    · obtain rfl : k = N := by omega
      have he : a.take k = a := by rw [← hN'.out, List.take_length]
      rw [he] at hno
      clear he
      go_wp2
      go_ret
      exact ⟨⟨_, rfl, by rw [hno.out]; rfl⟩, hbw⟩

theorem ContainsFunc_any (n : Nat) (c : Value) (p : Int × Int → Bool) (v : Value) (a : List (Int × Int)) (hl : a.length ≤ 1000000) (w : World) (h : Row w.heap.size w v a) (hin : ∀ args w, (callFunc n args).run Tryd.prog w = .ok (.enter n args) w)
    (hp : ∀ (s1 s2 : Int) w1, (s1, s2) ∈ a → Below w.heap.size w w1 → Calls Tryd.prog n #[.agg #[.int .i64 s1, .int .i64 s2], c] w1 fun e w' => e = .returned (.bool (p (s1, s2))) ∧ Below w1.heap.size w1 w') :
    Calls Tryd.prog 53 #[v, .func (.func n) #[] #[c]] w fun e w' => e = .returned (.bool (a.any p)) ∧ Below w.heap.size w w' := by
  have hI := IndexFunc_any n c p v a hl w h hin hp
  obtain ⟨x, N, cap, rfl, hN', h0, hc1, hc2⟩ := h.opened
  clear h hp
  go_enter Tryd.func53, Tryd.ntmps53
  go_wp2_with fail
  refine hI.mono ?_
  clear hI
  rintro e w1 ⟨⟨i, rfl, hi⟩, hb1⟩
  have hi' := Lib.hid hi
  clear hi
  go_wp2
  go_ret
  exact ⟨ret_bool hi'.out, hb1⟩

/-- Is a stop of the request? -/
theorem Has_any (c : Nat) (r : Int) (v : Value) (a : List (Int × Int)) (hl : a.length ≤ 1000000) (w : World) (h : Row w.heap.size w v a) (hc : w.cell? ⟨c, 0, none⟩ = some (.int .i64 r)) (hin : c < w.heap.size) :
    Calls Tryd.prog 53 #[v, .func (.func 54) #[] #[.pointer (some ⟨c, 0, none⟩)]] w fun e w' => e = .returned (.bool (!noR r a)) ∧ Below w.heap.size w w' := by
  rw [← any_noR]
  exact ContainsFunc_any _ _ (fun s => decide (s.1 = r)) v a hl w h closure_in (fun s1 s2 w1 _ hb => closure_any c s1 s2 r w1 ((hb.cell (p := ⟨c, 0, none⟩) hin).trans hc) (Nat.lt_of_lt_of_le hin hb.size))

end Go.Proofs.YthjdacbgcpldjaaDoor.Ins

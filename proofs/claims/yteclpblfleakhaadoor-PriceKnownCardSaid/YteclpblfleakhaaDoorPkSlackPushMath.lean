import Derived.Test.YteclpblfleakhaaDoorPkPlanMath
import Derived.Test.YteclpblfleakhaaDoorPkRouteLen

namespace Go.Proofs.YteclpblfleakhaaDoor.Slack
open Go.Proofs.YteclpblfleakhaaDoor.Order Go.Proofs.YteclpblfleakhaaDoor.Place Go.Proofs.YteclpblfleakhaaDoor.Window Go.Proofs.YteclpblfleakhaaDoor.When
set_option linter.unusedVariables false
theorem take_succ_at {α : Type} {L : List α} {k : Nat} {q : α} (h : L[k]? = some q) : L.take (k + 1) = L.take k ++ [q] := by rw [List.take_add_one, h]; rfl
theorem pairs_at {v : Vh} {l : List (Int × Int)} {t : List Rq} {i by_ : Int} {k : Nat} (hk : k < l.length) : (pairs (visL t l) i by_)[k]? = some (visN v t l k, bmp i by_ k) := by
 have h : (visL t l)[k]? = some (visN v t l k) := by
  have : k < (visL t l).length := by simpa [visL] using hk
  unfold visN
  rw [List.getElem?_eq_getElem this]
  rfl
 exact pairs_get h
def endK (v : Vh) (l : List (Int × Int)) (t : List Rq) (i by_ : Int) (k : Nat) : Sp := endB (sp0 v) ((pairs (visL t l) i by_).take k)
def okK (v : Vh) (l : List (Int × Int)) (t : List Rq) (i by_ : Int) (k : Nat) : Bool := okBs (sp0 v) ((pairs (visL t l) i by_).take k)
theorem okK_next {v : Vh} {l : List (Int × Int)} {t : List Rq} {i by_ : Int} {k : Nat} (hk : k < l.length) : okK v l t i by_ (k + 1) = (okK v l t i by_ k && decide (beB (endK v l t i by_ k) (visN v t l k) (bmp i by_ k) ≤ (visN v t l k).wl)) := by
 unfold okK endK
 rw [take_succ_at (pairs_at (v := v) hk), okBs_snoc]
theorem okK_all {v : Vh} {l : List (Int × Int)} {t : List Rq} {i by_ : Int} : fromB v l t i by_ = (okK v l t i by_ l.length && decide (arV (endK v l t i by_ l.length) (homeV v) ≤ v.en)) := by
 unfold fromB okK endK
 rw [List.take_of_length_le (by rw [pairs_length]; simp [visL])]
end Go.Proofs.YteclpblfleakhaaDoor.Slack
namespace Go.Proofs.YteclpblfleakhaaDoor.Slack
open Go.RowKit Go.Sort Go.Proofs.YteclpblfleakhaaDoor.Mem Go.Proofs.YteclpblfleakhaaDoor.Route Go.Proofs.YteclpblfleakhaaDoor.When
set_option linter.unusedVariables false
theorem flatT_append (A B : List Tm) : flatT (A ++ B) = flatT A ++ flatT B := by simp [flatT]
theorem flatT_cons (q : Tm) (B : List Tm) : flatT (q :: B) = tmC q ++ flatT B := by simp [flatT]
theorem flatT_set {A B : List Tm} {q q' : Tm} {j : Nat} {y : Value} (hj : j < 3) (e : (tmC q).set j y = tmC q') : (flatT (A ++ q :: B)).set (A.length * 3 + j) y = flatT (A ++ q' :: B) := by
 rw [flatT_append, flatT_append, flatT_cons, flatT_cons, List.set_append_right _ _ (by rw [flatT_length]; omega), flatT_length, show A.length * 3 + j - A.length * 3 = j by omega, List.set_append_left _ _ (by simpa [tmC] using hj), e]
theorem split_at {α : Type} {L : List α} {k : Nat} {q : α} (h : L[k]? = some q) : L = L.take k ++ q :: L.drop (k + 1) ∧ (L.take k).length = k := by
 obtain ⟨hk, rfl⟩ := List.getElem?_eq_some_iff.1 h
 exact ⟨by rw [← List.drop_eq_getElem_cons hk, List.take_append_drop], by simp; omega⟩
theorem set_split {α : Type} {L : List α} {k : Nat} {q q' : α} (h : L[k]? = some q) : L.set k q' = L.take k ++ q' :: L.drop (k + 1) := by
 obtain ⟨h1, h2⟩ := split_at h
 conv => lhs; rw [h1]
 rw [List.set_append_right _ _ (by omega), h2, Nat.sub_self]
 rfl
theorem flatT_put {L : List Tm} {k : Nat} {q q' : Tm} (h : L[k]? = some q) {j : Nat} {y : Value} (hj : j < 3) (e : (tmC q).set j y = tmC q') : (flatT L).set (k * 3 + j) y = flatT (L.set k q') := by
 obtain ⟨h1, h2⟩ := split_at h
 have h3 := flatT_set (A := L.take k) (B := L.drop (k + 1)) (q := q) hj e
 rw [h2, ← h1, ← set_split h] at h3
 exact h3
theorem flatT_get {L : List Tm} {k : Nat} {q : Tm} (h : L[k]? = some q) {j : Nat} {u : Value} (hj : (tmC q)[j]? = some u) : (flatT L)[k * 3 + j]? = some u :=
 flat_get (m := 3) (fun r hr => by obtain ⟨s, _, rfl⟩ := List.mem_map.1 hr; rfl) k (tmC q) (by rw [List.getElem?_map, h]; rfl) j u hj
def Own (W : World) (B g N c : Nat) (L : List Tm) : Prop := W.ownsRow B 86 3 (.slice (some ⟨g, 0, none⟩) N c) N (flatT L)
theorem Own.len {W : World} {B g N c : Nat} {L : List Tm} (h : Own W B g N c L) : L.length = N := by
 have := h.1
 rw [flatT_length] at this
 omega
theorem Own.block {W : World} {B g N c : Nat} {L : List Tm} (h : Own W B g N c L) : B ≤ g ∧ g < W.heap.size := World.ownsRow.lt h g rfl
theorem Own.at_ {W : World} {B g N c : Nat} {L : List Tm} (h : Own W B g N c L) : ∃ cs, At W g 86 cs := by
 rcases h.2 with ⟨h1, h0⟩ | ⟨k, cap, cur, h1, hb, hg, h2, h3, _⟩
 · cases h1
 · cases h1; exact ⟨_, hg⟩
theorem Own.keep {W W' : World} {B g N c : Nat} {L : List Tm} (h : Own W B g N c L) (hb : Below W.heap.size W W') : Own W' B g N c L := owns_below h hb
theorem Own.cap {W : World} {B g N c : Nat} {L : List Tm} (h : Own W B g N c L) : N ≤ c ∧ c ≤ maxLen := by
 rcases h.2 with ⟨h1, h0⟩ | ⟨k, cap, cur, h1, hb, hg, h2, h3, _⟩
 · cases h1
 · cases h1; exact ⟨h2, h3⟩
theorem Own.get {W : World} {B g N c : Nat} {L : List Tm} (h : Own W B g N c L) {k : Nat} {q : Tm} (hk : L[k]? = some q) {j : Nat} {u : Value} (hj : (tmC q)[j]? = some u) : W.cell? ⟨g, k * 3 + j, none⟩ = some u := by
 have hl := h.len
 have hk1 := (List.getElem?_eq_some_iff.1 hk).1
 have hj1 : j < 3 := by simpa [tmC] using (List.getElem?_eq_some_iff.1 hj).1
 rw [World.ownsRow.cellAt h _ (by omega)]
 exact flatT_get hk hj
theorem Own.put {W : World} {B g N c : Nat} {L : List Tm} (h : Own W B g N c L) {k : Nat} {q q' : Tm} (hk : L[k]? = some q) {j : Nat} {y : Value} (hj : j < 3) (e : (tmC q).set j y = tmC q') : Own (W.setCell ⟨g, k * 3 + j, none⟩ y) B g N c (L.set k q') := by
 have := (World.ownsRow.stored h (k * 3 + j) y).1
 rw [flatT_put hk hj e] at this
 exact this
theorem Own.free {W : World} {B g N c : Nat} {L : List Tm} (h : Own W B g N c L) (j : Nat) : W.frozen? ⟨g, j, none⟩ = false := World.ownsRow.frozenAt h j
theorem At.off {W W' : World} {g b : Nat} {t : TypeId} {cs : Array Value} (h : At W g t cs) (hg : W.grownBy W' (some b)) (hne : g ≠ b) : At W' g t cs := (hg.block g h.inside (fun e => hne (by cases e; rfl))).trans h
def VC (ks : List Value) (i : Nat) (v : Value) (_ : World) : Prop := ∀ u, ks[i]? = some u → v = u
theorem VC.mk {ks : List Value} {i : Nat} {u v : Value} {w : World} (h : ks[i]? = some u) (e : v = u) : VC ks i v w := fun k hk => by rw [h] at hk; cases hk; exact e
def ZR (s : Nat) (P0 P1 : World → Prop) (done : Nat → Bool) (_ : Nat → Value) (W : World) : Prop := (done s = false → P0 W) ∧ (done s = true → P1 W)
theorem ZR.start {s : Nat} {P0 P1 : World → Prop} {ys : Nat → Value} {W : World} (h : P0 W) : ZR s P0 P1 (fun _ => false) ys W := ⟨fun _ => h, fun h => by cases h⟩
theorem ZR.light {s k : Nat} {P0 P1 : World → Prop} {done : Nat → Bool} {ys ys' : Nat → Value} {W : World} (h : ZR s P0 P1 done ys W) (hk : s ≠ k) : ZR s P0 P1 (Sched.mark done k) ys' W := by
 unfold ZR
 rw [show Sched.mark done k s = done s by simp [Sched.mark, hk]]
 exact h
theorem ZR.put {s : Nat} {P0 P1 : World → Prop} {done : Nat → Bool} {ys' : Nat → Value} {W' : World} (h : P1 W') : ZR s P0 P1 (Sched.mark done s) ys' W' := by
 unfold ZR
 rw [show Sched.mark done s s = true by simp [Sched.mark]]
 exact ⟨fun h => (by cases h), fun _ => h⟩
end Go.Proofs.YteclpblfleakhaaDoor.Slack
namespace Go.Proofs.YteclpblfleakhaaDoor.Load
open Go.RowKit Go.Sort Go.Proofs.YteclpblfleakhaaDoor.Mem Go.Proofs.YteclpblfleakhaaDoor.Route Go.Proofs.YteclpblfleakhaaDoor.When
set_option linter.unusedVariables false
theorem Ints.plain {B : Nat} {W : World} {v : Value} {l : List Int} (h : Ints B W v l) : Plain v := by
 obtain ⟨x, cap, rfl, h1, h2, h0, h3⟩ := h
 cases x with
 | none =>
  have := h0 rfl
  rw [this.1, this.2]
  exact .inl rfl
 | some a => exact .inr ⟨_, _, _, rfl⟩
theorem Ints.flat {B : Nat} {W : World} {b : Addr} {N cap : Nat} {l : List Int} (h : Ints B W (.slice (some b) N cap) l) : ∀ j u, (flatI l)[j]? = some u → W.cell? (b.add j) = some u := by
 intro j u hj
 obtain ⟨i, k, r, e, hr, hu⟩ := flat_of (m := 1) (by decide) (fun r hr => by obtain ⟨s, _, rfl⟩ := List.mem_map.1 hr; rfl) j u hj
 obtain ⟨g, o, hx, hg, hc⟩ := RowB.row h hr
 cases hx
 have := hc k u hu
 rw [add_at, e, show o + (i * 1 + k) = o + i * 1 + k by omega]
 exact this
end Go.Proofs.YteclpblfleakhaaDoor.Load
namespace Go.Proofs.YteclpblfleakhaaDoor.Route
open Go.RowKit Go.Proofs.YteclpblfleakhaaDoor.Mem
set_option linter.unusedVariables false
def NewB (B : Nat) (v : Value) : Prop := ∀ q, v.ownBlock = some q → B ≤ q
theorem NewB.nil (B : Nat) : NewB B (.slice none 0 0) := fun r e => by cases e
theorem ret_vb {v : Value} {a b : Bool} (h : a = b) : Ending.returned (.tuple #[v, .bool a]) = .returned (.tuple #[v, .bool b]) := by rw [h]
theorem with_no {l : List (Int × Int)} {r i j : Int} (h : mayW l r i j = false) : withV l r i j = [] := by unfold withV; rw [h]; rfl
theorem with_yes {l : List (Int × Int)} {r i j : Int} (h : mayW l r i j = true) : withV l r i j = withL l r i.toNat j.toNat := by unfold withV; rw [h]; rfl
theorem may_no {l : List (Int × Int)} {r i j : Int} (h : ¬ (0 ≤ i ∧ i ≤ j ∧ j ≤ l.length ∧ 0 ≤ r ∧ l.length + 2 ≤ 16 ∧ noR r l = true)) : mayW l r i j = false := by
 cases hm : mayW l r i j
 · rfl
 · exact absurd (mayW_iff.1 hm) h
end Go.Proofs.YteclpblfleakhaaDoor.Route
namespace Go.Proofs.YteclpblfleakhaaDoor.Ins
open Go.RowKit Go.Proofs.YteclpblfleakhaaDoor.Mem Go.Proofs.YteclpblfleakhaaDoor.Route Go.Proofs.YteclpblfleakhaaDoor.When Go.Proofs.YteclpblfleakhaaDoor.Load
set_option linter.unusedVariables false
theorem closure_any (c : Nat) (s1 s2 r : Int) (w : World) (hc : w.cell? ⟨c, 0, none⟩ = some (.int .i64 r)) (hin : c < w.heap.size) :
 Calls Tryd.prog 88 #[.agg #[.int .i64 s1, .int .i64 s2], .pointer (some ⟨c, 0, none⟩)] w fun e w' => e = .returned (.bool (decide (s1 = r))) ∧ Below w.heap.size w w' := by
 have hb0 : Below w.heap.size w (w.alloc (.cells #[.int .i64 s1, .int .i64 s2] 61)) := (Below.refl _ _).alloc (Nat.le_refl _) _
 have hc1 := (hb0.cell (p := ⟨c, 0, none⟩) hin).trans hc
 go_enter Tryd.func88, Tryd.ntmps88
 go_wp2
 go_ret
 exact ⟨ret_bool (by first | rfl | simp), hb0⟩
theorem closure_in (args : Array Value) (w : World) : (callFunc 88 args).run Tryd.prog w = .ok (.enter 88 args) w := by
 simp [callFunc, Tryd.func88]
 rfl
theorem any_snoc {α : Type} (p : α → Bool) (l : List α) (x : α) : (l ++ [x]).any p = (l.any p || p x) := by simp
theorem takeA {α : Type} {l : List α} {k : Nat} {s : α} (h : l[k]? = some s) : l.take (k + 1) = l.take k ++ [s] := by rw [List.take_add_one, h]; rfl
theorem any_noR (r : Int) (l : List (Int × Int)) : l.any (fun s => decide (s.1 = r)) = !noR r l := by
 induction l with
 | nil => rfl
 | cons s l ih =>
  have e : noR r (s :: l) = (decide (s.1 ≠ r) && noR r l) := by simp [noR]
  rw [List.any_cons, ih, e]
  by_cases h : s.1 = r <;> simp [h]
set_option maxRecDepth 100000 in
set_option maxHeartbeats 2000000 in
theorem IndexFunc_any (n : Nat) (c : Value) (p : Int × Int → Bool) (v : Value) (a : List (Int × Int)) (hl : a.length ≤ 1000000) (w : World) (h : Row w.heap.size w v a) (hin : ∀ args w, (callFunc n args).run Tryd.prog w = .ok (.enter n args) w)
 (hp : ∀ (s1 s2 : Int) w1, (s1, s2) ∈ a → Below w.heap.size w w1 → Calls Tryd.prog n #[.agg #[.int .i64 s1, .int .i64 s2], c] w1 fun e w' => e = .returned (.bool (p (s1, s2))) ∧ Below w1.heap.size w1 w') :
 Calls Tryd.prog 91 #[v, .func (.func n) #[] #[c]] w fun e w' => (∃ i : Int, e = .returned (.int .i64 i) ∧ decide (0 ≤ i) = a.any p) ∧ Below w.heap.size w w' := by
 obtain ⟨x, N, cap, rfl, hN', h0, hc1, hc2⟩ := h.opened
 have h' := Lib.hid h
 have hp' := Lib.hid hp
 rw [hN'.out] at hl
 clear h hp
 go_enter Tryd.func91, Tryd.ntmps91
 go_wp2
 go_loopw [8] (fun i wr => ∃ k : Nat, k ≤ N ∧ i = .int .i64 k ∧ Hid ((a.take k).any p = false) ∧ Below w.heap.size w wr)
  (fun i _ => N - (intOf i).toNat)
 case atStart => exact ⟨0, by omega, rfl, Lib.hid (by simp), Below.refl _ _⟩
 case round =>
  obtain ⟨k, hk, rfl, hno, hbw⟩ := hrel
  by_cases hlt : k < N
  · obtain ⟨⟨s1, s2⟩, hs⟩ : ∃ s, a[k]? = some s := ⟨a[k]'(by rw [hN'.out]; exact hlt), List.getElem?_eq_getElem _⟩
    obtain ⟨g, o, rfl, hg, e1, e2⟩ := Row.stop (h'.out.keep hbw (Nat.le_refl _)) hs
    have hcall := hp'.out s1 s2 _ (List.mem_of_getElem? hs) hbw
    have hyes := Lib.hid (fun e : p (s1, s2) = true => (List.any_eq_true.2 ⟨_, List.mem_of_getElem? hs, e⟩ : a.any p = true))
    have hnot := Lib.hid (fun e : p (s1, s2) = false => (by rw [takeA hs, any_snoc, hno.out, e]; rfl : (a.take (k + 1)).any p = false))
    simp at e1 e2
    clear hs hno
    go_wp2_with fail
    refine hcall.mono ?_
    clear hcall e1 e2
    rintro e w2 ⟨rfl, hb2⟩
    have hB2 := hbw.trans (hb2.mono hbw.size)
    clear hb2 hbw
    cases h1 : p (s1, s2)
    · have hn2 := Lib.hid (hnot.out h1)
      clear hyes hnot h1
      go_wp2
      go_roundw
      case rel => exact ⟨k + 1, by omega, by go_num, hn2, hB2⟩
      case measure => simp [intOf]; omega
    · have hn2 := Lib.hid (hyes.out h1)
      clear hyes hnot h1
      go_wp2
      go_ret
      exact ⟨⟨_, rfl, by rw [hn2.out]; simp⟩, hB2⟩
  · obtain rfl : k = N := by omega
    have he : a.take k = a := by rw [← hN'.out, List.take_length]
    rw [he] at hno
    clear he
    go_wp2
    go_ret
    exact ⟨⟨_, rfl, by rw [hno.out]; rfl⟩, hbw⟩
theorem ContainsFunc_any (n : Nat) (c : Value) (p : Int × Int → Bool) (v : Value) (a : List (Int × Int)) (hl : a.length ≤ 1000000) (w : World) (h : Row w.heap.size w v a) (hin : ∀ args w, (callFunc n args).run Tryd.prog w = .ok (.enter n args) w)
 (hp : ∀ (s1 s2 : Int) w1, (s1, s2) ∈ a → Below w.heap.size w w1 → Calls Tryd.prog n #[.agg #[.int .i64 s1, .int .i64 s2], c] w1 fun e w' => e = .returned (.bool (p (s1, s2))) ∧ Below w1.heap.size w1 w') :
 Calls Tryd.prog 87 #[v, .func (.func n) #[] #[c]] w fun e w' => e = .returned (.bool (a.any p)) ∧ Below w.heap.size w w' := by
 have hI := IndexFunc_any n c p v a hl w h hin hp
 obtain ⟨x, N, cap, rfl, hN', h0, hc1, hc2⟩ := h.opened
 clear h hp
 go_enter Tryd.func87, Tryd.ntmps87
 go_wp2_with fail
 refine hI.mono ?_
 clear hI
 rintro e w1 ⟨⟨i, rfl, hi⟩, hb1⟩
 have hi' := Lib.hid hi
 clear hi
 go_wp2
 go_ret
 exact ⟨ret_bool hi'.out, hb1⟩
theorem Has_any (c : Nat) (r : Int) (v : Value) (a : List (Int × Int)) (hl : a.length ≤ 1000000) (w : World) (h : Row w.heap.size w v a) (hc : w.cell? ⟨c, 0, none⟩ = some (.int .i64 r)) (hin : c < w.heap.size) :
 Calls Tryd.prog 87 #[v, .func (.func 88) #[] #[.pointer (some ⟨c, 0, none⟩)]] w fun e w' => e = .returned (.bool (!noR r a)) ∧ Below w.heap.size w w' := by
 rw [← any_noR]
 exact ContainsFunc_any _ _ (fun s => decide (s.1 = r)) v a hl w h closure_in (fun s1 s2 w1 _ hb => closure_any c s1 s2 r w1 ((hb.cell (p := ⟨c, 0, none⟩) hin).trans hc) (Nat.lt_of_lt_of_le hin hb.size))
end Go.Proofs.YteclpblfleakhaaDoor.Ins
namespace Go.Proofs.YteclpblfleakhaaDoor.Route
open Go.RowKit Go.Proofs.YteclpblfleakhaaDoor.Mem
set_option linter.unusedVariables false
theorem keep_any (c : Nat) (s1 s2 r : Int) (w : World) (hc : w.cell? ⟨c, 0, none⟩ = some (.int .i64 r)) (hin : c < w.heap.size) :
 Calls Tryd.prog 51 #[.agg #[.int .i64 s1, .int .i64 s2], .pointer (some ⟨c, 0, none⟩)] w fun e w' => e = .returned (.bool (!(s1 == r))) ∧ Below w.heap.size w w' := by
 have hb0 : Below w.heap.size w (w.alloc (.cells #[.int .i64 s1, .int .i64 s2] 61)) := (Below.refl _ _).alloc (Nat.le_refl _) _
 have hc1 := (hb0.cell (p := ⟨c, 0, none⟩) hin).trans hc
 go_enter Tryd.func51, Tryd.ntmps51
 go_wp2
 go_ret
 exact ⟨ret_bool rfl, hb0⟩
theorem kept_in (args : Array Value) (w : World) : (callFunc 51 args).run Tryd.prog w = .ok (.enter 51 args) w := by
 simp [callFunc, Tryd.func51]
 rfl
set_option maxRecDepth 100000 in
set_option maxHeartbeats 1000000 in
theorem kept_any (v : Value) (l : List (Int × Int)) (c : Nat) (r : Int) (hl : l.length ≤ 1000000) (w : World) (h : Row w.heap.size w v l) (hc : w.cell? ⟨c, 0, none⟩ = some (.int .i64 r)) (hin : c < w.heap.size) :
 Calls Tryd.prog 50 #[v, .func (.func 51) #[] #[.pointer (some ⟨c, 0, none⟩)]] w fun e w' => (∃ v', e = .returned v' ∧ Row w'.heap.size w' v' (woL r l)) ∧ Below w.heap.size w w' := by
 obtain ⟨i0, hi, hz0, hz1, hz2⟩ := info_parts info_stop
 obtain ⟨x, N, cap, rfl, hN', h0', hc1, hc2⟩ := h.opened
 have h' := Lib.hid h
 rw [hN'.out] at hl
 clear h
 have hkin := kept_in
 go_enter Tryd.func50, Tryd.ntmps50
 go_wp2
 go_loopw [5, 10] (fun u i wr => ∃ k : Nat, k ≤ N ∧ i = .int .i64 k ∧ wr.ownsRow w.heap.size 61 2 u (woL r (l.take k)).length (flatS (woL r (l.take k))) ∧ Below w.heap.size w wr)
  (fun _ i _ => N - (intOf i).toNat)
 case atStart => exact ⟨0, by omega, rfl, by simpa [woL, flatS] using World.ownsRow_nil _ _ _ _, Below.refl _ _⟩
 case round =>
  obtain ⟨k, hk, rfl, hown, hbw⟩ := hrel
  by_cases hlt : k < N
  · obtain ⟨⟨s1, s2⟩, hs, _⟩ := drop_get (l := l) (k := k) (by rw [hN'.out]; exact hlt)
    obtain ⟨g, o, rfl, hg, e1, e2⟩ := Row.stop h'.out hs
    have e1 := (hbw.cell (p := ⟨g, o + k * 2, none⟩) hg).trans e1
    have e2 := (hbw.cell (p := ⟨g, o + k * 2 + 1, none⟩) hg).trans e2
    have hcr := (hbw.cell (p := ⟨c, 0, none⟩) hin).trans hc
    simp at e1 e2
    have hyes := Lib.hid (wo_succ_yes (r := r) hs)
    have hno := Lib.hid (wo_succ_no (r := r) hs)
    have hln := wo_take_le r l k
    clear hs
    generalize woL r (l.take k) = L at *
    have hS := At.new wr 61 #[.int .i64 s1, .int .i64 s2]
    have hb1 := hbw.alloc hbw.size (.cells #[.int .i64 s1, .int .i64 s2] 61)
    have ho1 := hown.alloc (.cells #[.int .i64 s1, .int .i64 s2] 61)
    have hsz := hbw.size
    go_wp2_with fail
    generalize (wr.alloc (.cells #[.int .i64 s1, .int .i64 s2] 61)) = w1 at *
    generalize wr.heap.size = q at *
    have hsz1 := hb1.size
    refine (keep_any c s1 s2 r w1 ((hb1.cell (p := ⟨c, 0, none⟩) hin).trans hc) (by omega)).mono ?_
    rintro e w2 ⟨rfl, hb2⟩
    have hB2 := hb1.trans (hb2.mono hsz1)
    have ho2 := owns_below ho1 hb2
    have hS2 := hS.keep hb2 hS.inside
    have hsz2 := hB2.size
    have a0 := hS2.cell 0
    have a1 := hS2.cell 1
    simp at a0 a1
    clear hb2 hb1 ho1 hS hown hbw e1 e2 hcr
    cases h1 : (s1 == r)
    · have hy := Lib.hid (hyes.out (by simpa using h1))
      clear hyes hno
      go_wp2_with (at_builtin; refine wpList_append_own _ rfl _ _ 48 rfl w.heap.size 61 i0 (.agg #[.int .i64 0, .int .i64 0]) 2 16 Tryd.underlying48 hi hz0 hz1 hz2 rfl (by decide) _ _ _ rfl (ho2.alloc _) ⟨w2.heap.size, 0, none⟩ 1 1 [.int .i64 s1, .int .i64 s2] rfl rfl (World.news_of_block (cs := #[.int .i64 s1, .int .i64 s2]) (t := 61) (fr := (0, 0)) (heap_alloc_new w2 _)) (by simp [Value.oneCell']) (by unfold maxLen; omega) (by omega) (by simp; omega) ?_; intro v7 w7 hown7 hgrow7 hnil7)
      have hb7 : Below w.heap.size w w7 := (hB2.alloc hB2.size _).grown hgrow7 (by simp; omega) (owns_row ho2)
      go_roundw
      case rel => exact ⟨k + 1, by omega, by go_num, by rw [hy.out, flatS_snoc, List.length_append]; exact hown7, hb7⟩
      case measure => simp [intOf]; omega
    · have hy := Lib.hid (hno.out (by simpa using h1))
      clear hyes hno
      go_wp2
      go_roundw
      case rel => exact ⟨k + 1, by omega, by go_num, by rw [hy.out]; exact ho2, hB2⟩
      case measure => simp [intOf]; omega
  · obtain rfl : k = N := by omega
    have he : l.take k = l := by rw [← hN'.out, List.take_length]
    rw [he] at hown
    clear he
    have hr := Lib.hid (Row.of_owns (B := wr.heap.size) hown rfl (Nat.le_refl _))
    clear hown
    go_wp2
    go_ret
    exact ⟨⟨_, rfl, hr.out⟩, hbw⟩
theorem Without_any (v : Value) (l : List (Int × Int)) (r : Int) (hl : l.length ≤ 1000000) (w : World) (h : Row w.heap.size w v l) :
 Calls Tryd.prog 31 #[v, .int .i64 r] w fun e w' => (∃ v', e = .returned v' ∧ Row w'.heap.size w' v' (woL r l)) ∧ Below w.heap.size w w' := by
 have hb0 : Below w.heap.size w (w.alloc (.cells #[.int .i64 r] 3)) := (Below.refl _ _).alloc (Nat.le_refl _) _
 have hA := At.new w 3 #[.int .i64 r]
 have hr := h.on hb0
 obtain ⟨x, N, cap, rfl, hN', h0', hc1, hc2⟩ := h.opened
 clear h
 go_enter Tryd.func31, Tryd.ntmps31
 go_wp2_with fail
 refine (kept_any _ l w.heap.size r hl _ hr (by simp) hA.inside).mono ?_
 rintro e w1 ⟨⟨v1, rfl, hr1⟩, hb1⟩
 go_wp2
 go_ret
 exact ⟨⟨_, rfl, hr1⟩, hb0.trans (hb1.mono hb0.size)⟩
end Go.Proofs.YteclpblfleakhaaDoor.Route
namespace Go.Proofs.YteclpblfleakhaaDoor.Route
open Go.RowKit Go.Sort Go.Proofs.YteclpblfleakhaaDoor.Mem
set_option linter.unusedVariables false
theorem slice_len {B : Nat} {W : World} {v : Value} {l : List (Int × Int)} (h : Row B W v l) : ∃ x cap, v = .slice x l.length cap := by
 obtain ⟨x, cap, e, _⟩ := h.slice
 exact ⟨x, cap, e⟩
set_option maxRecDepth 100000 in
set_option maxHeartbeats 2000000 in
theorem With_any (v : Value) (l : List (Int × Int)) (r i j : Int) (hl : l.length ≤ 1000000) (w : World) (h : Row w.heap.size w v l) :
 Calls Tryd.prog 14 #[v, .int .i64 r, .int .i64 i, .int .i64 j] w fun e w' => (∃ v', e = .returned (.tuple #[v', .bool (mayW l r i j)]) ∧ Row w'.heap.size w' v' (withV l r i j) ∧ New w.heap.size v') ∧ Below w.heap.size w w' := by
 have hWo := Without_any v l r hl w h
 obtain ⟨x, N, cap, rfl, hN', h0', hc1, hc2⟩ := h.opened
 have h' := Lib.hid h
 rw [hN'.out] at hl
 clear h
 have hwr : IntKind.i64.wrap ((N : Int) + 2) = (N : Int) + 2 := IntWalk.i64_in _ (by omega)
 have fin : Hid (mayW l r i j = false → ∀ W, Below w.heap.size w W → (∃ v', Ending.returned (.tuple #[.slice none 0 0, .bool false]) = .returned (.tuple #[v', .bool (mayW l r i j)]) ∧ Row W.heap.size W v' (withV l r i j) ∧ New w.heap.size v') ∧ Below w.heap.size w W) :=
  Lib.hid fun hF W hb => ⟨⟨_, ret_vb hF.symm, by rw [with_no hF]; exact RowB.nil _ _ _, New.nil _⟩, hb⟩
 cases c0 : decide ((i : Int) < 0)
 case true =>
  have hF := Lib.hid (may_no (l := l) (r := r) (i := i) (j := j) fun hh => by have := hh.1; simp at c0; omega)
  clear hWo
  go_enter Tryd.func14, Tryd.ntmps14
  go_wp2
  refine bodyPost_ret (v := .tuple #[.slice none 0 0, .bool false]) (by simp [results, Tryd.results14, go_sem]) rfl ?_
  exact fin.out hF.out _ (Below.refl _ _)
 case false =>
 cases c1 : decide (j < i)
 case true =>
  have hF := Lib.hid (may_no (l := l) (r := r) (i := i) (j := j) fun hh => by have := hh.2.1; simp at c1; omega)
  clear hWo
  go_enter Tryd.func14, Tryd.ntmps14
  go_wp2
  refine bodyPost_ret (v := .tuple #[.slice none 0 0, .bool false]) (by simp [results, Tryd.results14, go_sem]) rfl ?_
  exact fin.out hF.out _ (Below.refl _ _)
 case false =>
 cases c2 : decide ((N : Int) < j)
 case true =>
  have hF := Lib.hid (may_no (l := l) (r := r) (i := i) (j := j) fun hh => by have := hh.2.2.1; rw [hN'.out] at this; simp at c2; omega)
  clear hWo
  go_enter Tryd.func14, Tryd.ntmps14
  go_wp2
  refine bodyPost_ret (v := .tuple #[.slice none 0 0, .bool false]) (by simp [results, Tryd.results14, go_sem]) rfl ?_
  exact fin.out hF.out _ (Below.refl _ _)
 case false =>
 cases c3 : decide ((16 : Int) < (N : Int) + 2)
 case true =>
  have hF := Lib.hid (may_no (l := l) (r := r) (i := i) (j := j) fun hh => by have := hh.2.2.2.2.1; rw [hN'.out] at this; simp at c3; omega)
  clear hWo
  go_enter Tryd.func14, Tryd.ntmps14
  go_wp2
  refine bodyPost_ret (v := .tuple #[.slice none 0 0, .bool false]) (by simp [results, Tryd.results14, go_sem]) rfl ?_
  exact fin.out hF.out _ (Below.refl _ _)
 case false =>
 cases c4 : decide (r < 0)
 case true =>
  have hF := Lib.hid (may_no (l := l) (r := r) (i := i) (j := j) fun hh => by have := hh.2.2.2.1; simp at c4; omega)
  clear hWo
  go_enter Tryd.func14, Tryd.ntmps14
  go_wp2
  refine bodyPost_ret (v := .tuple #[.slice none 0 0, .bool false]) (by simp [results, Tryd.results14, go_sem]) rfl ?_
  exact fin.out hF.out _ (Below.refl _ _)
 case false =>
 obtain ⟨I, rfl⟩ : ∃ I : Nat, i = I := ⟨i.toNat, by simp at c0; omega⟩
 obtain ⟨J, rfl⟩ : ∃ J : Nat, j = J := ⟨j.toNat, by simp at c1; omega⟩
 have hIJ : I ≤ J := by simp at c1; omega
 have hJ : J ≤ N := by simp at c2; omega
 have h14 : N + 2 ≤ 16 := by simp at c3; omega
 have hr0 : 0 ≤ r := by simp at c4; omega
 have c1' : decide (J < I) = false := by simp; omega
 have c2' : decide (N < J) = false := by simp; omega
 obtain ⟨M, hM⟩ : ∃ M, (woL r l).length = M := ⟨_, rfl⟩
 have hM' := Lib.hid hM
 clear hM c0 c1 c2
 by_cases hless : M < N
 · have hF := Lib.hid (may_no (l := l) (r := r) (i := I) (j := J) fun hh => by have h1 := wo_less.1 (show (woL r l).length < l.length by rw [hM'.out, hN'.out]; exact hless); rw [hh.2.2.2.2.2] at h1; cases h1)
   go_enter Tryd.func14, Tryd.ntmps14
   go_wp2_with fail
   refine hWo.mono ?_
   rintro e w1 ⟨⟨v1, rfl, hv1⟩, hb1⟩
   obtain ⟨y, cy, rfl⟩ := slice_len hv1
   rw [hM'.out]
   clear hv1 hWo
   go_wp2
   refine bodyPost_ret (v := .tuple #[.slice none 0 0, .bool false]) (by simp [results, Tryd.results14, go_sem]) rfl ?_
   exact fin.out hF.out _ hb1
 · have hT := Lib.hid (mayW_iff (l := l) (r := r) (i := I) (j := J) |>.2 ⟨by omega, by omega, by rw [hN'.out]; omega, hr0, by rw [hN'.out]; omega, by
    cases hn : noR r l
    · have h1 := wo_less.2 hn
      rw [hM'.out, hN'.out] at h1
      exact absurd h1 hless
    · rfl⟩)
   have hput := Lib.hid (put_put (l := l) (i := I) (j := J) hIJ (by rw [hN'.out]; exact hJ) r)
   have hW := Lib.hid (with_yes hT.out)
   go_enter Tryd.func14, Tryd.ntmps14
   go_wp2_with fail
   refine hWo.mono ?_
   rintro e w1 ⟨⟨v1, rfl, hv1⟩, hb1⟩
   obtain ⟨y, cy, rfl⟩ := slice_len hv1
   rw [hM'.out]
   have hsz1 := hb1.size
   have hR1 := Lib.hid ((h'.out.keep hb1 (Nat.le_refl _)).more hsz1)
   clear hv1 hWo
   go_wp2_with fail
   refine (lengthened_any _ l J r 1 (by rw [hN'.out]; exact hl) (by rw [hN'.out]; exact hJ) w1 hR1.out).mono ?_
   rintro e w2 ⟨⟨v2, rfl, hv2, _⟩, hb2⟩
   have hB2 := hb1.trans (hb2.mono hsz1)
   have hv2' := Lib.hid hv2
   clear hv2 hb2 hb1
   go_wp2_with fail
   refine (lengthened_any v2 (putL l J (r, 1)) I r 0 (by rw [putL_length, hN'.out]; omega) (by rw [putL_length, hN'.out]; omega) w2 hv2'.out).mono ?_
   rintro e w3 ⟨⟨v3, rfl, hv3, hnw⟩, hb3⟩
   rw [hput.out] at hv3
   have hB3 := hB2.trans (hb3.mono hB2.size)
   have hv3' := Lib.hid hv3
   have hnw' := Lib.hid (hnw.more hB2.size)
   clear hv3 hb3 hB2 hnw
   go_wp2
   refine bodyPost_ret (v := .tuple #[_, .bool true]) (by simp [results, Tryd.results14, go_sem]; rfl) rfl ?_
   exact ⟨⟨_, ret_vb hT.out.symm, by rw [hW.out]; exact hv3'.out, hnw'.out⟩, hB3⟩
end Go.Proofs.YteclpblfleakhaaDoor.Route

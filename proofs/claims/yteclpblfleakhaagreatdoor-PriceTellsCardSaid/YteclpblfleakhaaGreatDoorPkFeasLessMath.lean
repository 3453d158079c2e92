import Derived.Test.YteclpblfleakhaaGreatDoorPkFeasPass

namespace Go.Proofs.YteclpblfleakhaaGreatDoor.Feas
open Go.Proofs.YteclpblfleakhaaGreatDoor.Order Go.Proofs.YteclpblfleakhaaGreatDoor.Place Go.Proofs.YteclpblfleakhaaGreatDoor.Route Go.Proofs.YteclpblfleakhaaGreatDoor.When Go.Proofs.YteclpblfleakhaaGreatDoor.Load Go.Proofs.YteclpblfleakhaaGreatDoor.Window
set_option linter.unusedVariables false
def Later (a a' : Sp) : Prop := ∀ p : Int × Int, mayB p = true → a'.now + distV (a'.px, a'.py) p ≤ a.now + distV (a.px, a.py) p
theorem dist_tri {a b c : Int × Int} (ha : mayB a = true) (hb : mayB b = true) (hc : mayB c = true) : distV a c ≤ distV a b + distV b c := by
 unfold distV
 rw [ha, hb, hc]
 simp only [Bool.and_self, if_true]
 unfold gap
 repeat' split
 all_goals omega
def restL (r : Int) : List (Int × Int) → List Tm → List Tm
 | s :: l, y :: ts => if s.1 = r then restL r l ts else y :: restL r l ts
 | _, _ => []
theorem restL_length (r : Int) : ∀ (l : List (Int × Int)) (ts : List Tm), ts.length = l.length → (restL r l ts).length = (woL r l).length
 | [], [], _ => rfl
 | s :: l, y :: ts, h => by
  have ih := restL_length r l ts (by simpa using h)
  by_cases hs : s.1 = r
  · simp [restL, hs, woL] at ih ⊢; exact ih
  · simp [restL, hs, woL] at ih ⊢; exact ih
 | [], _ :: _, h => by simp at h
 | _ :: _, [], h => by simp at h
theorem wo_cons_own {r : Int} {s : Int × Int} {l : List (Int × Int)} (h : s.1 = r) : woL r (s :: l) = woL r l := by simp [woL, h]
theorem wo_cons_other {r : Int} {s : Int × Int} {l : List (Int × Int)} (h : s.1 ≠ r) : woL r (s :: l) = s :: woL r l := by simp [woL, h]
def MayV (x : Vi) : Prop := mayB (x.px, x.py) = true ∧ 0 ≤ x.sv
theorem later_skip {a a' : Sp} {x : Vi} {n : Int} (ha : mayB (a.px, a.py) = true) (hx : MayV x) (h : Later a a') (hn : arV a x ≤ n) : Later ⟨n, x.px, x.py⟩ a' := by
 intro p hp
 have h1 := h p hp
 have h2 := dist_tri ha hx.1 hp
 unfold arV at hn
 show a'.now + distV (a'.px, a'.py) p ≤ n + distV (x.px, x.py) p
 omega
theorem later_same {n n' : Int} {x : Vi} (h : n' ≤ n) : Later ⟨n, x.px, x.py⟩ ⟨n', x.px, x.py⟩ := by
 intro p _
 show n' + distV (x.px, x.py) p ≤ n + distV (x.px, x.py) p
 omega
theorem later_at {a a' : Sp} {x : Vi} (h : Later a a') (hx : MayV x) : arV a' x ≤ arV a x := h _ hx.1
theorem kept_less {g : Int × Int → Vi} {r : Int} : ∀ {l : List (Int × Int)} {ts : List Tm} {a a' b : Sp}, (∀ s ∈ l, MayV (g s)) → mayB (a.px, a.py) = true → keptL a (l.map g) ts = some b → Later a a' → ∃ b', keptL a' ((woL r l).map g) (restL r l ts) = some b' ∧ Later b b'
 | [], ts, a, a', b, _, _, h, hL => by
  simp [keptL] at h
  subst h
  exact ⟨a', by simp [woL, keptL], hL⟩
 | s :: l, [], _, _, _, _, _, h, _ => by simp [keptL] at h
 | s :: l, y :: ts, a, a', b, hm, ha, h, hL => by
  have hx := hm s (List.mem_cons_self ..)
  have hr := fun z hz => hm z (List.mem_cons_of_mem s hz)
  rw [List.map_cons, keptL] at h
  split at h
  · rename_i hk
    obtain ⟨k1, k2, ⟨k3, k4⟩, k5⟩ := keptB_iff.1 hk
    have hsv := hx.2
    by_cases hs : s.1 = r
    · rw [wo_cons_own hs, restL, if_pos hs]
      exact kept_less hr hx.1 h (later_skip ha hx hL (by omega))
    · rw [wo_cons_other hs, restL, if_neg hs, List.map_cons, keptL, if_pos (keptB_iff.2 ⟨by have := later_at hL hx; omega, k2, ⟨k3, k4⟩, k5⟩)]
      exact kept_less hr hx.1 h (later_same (x := g s) (Int.le_refl _))
  · cases h
theorem early_less {g : Int × Int → Vi} {r : Int} : ∀ {l : List (Int × Int)} {a a' b : Sp}, (∀ s ∈ l, MayV (g s)) → mayB (a.px, a.py) = true → earlyL a (l.map g) = some b → Later a a' → ∃ b', earlyL a' ((woL r l).map g) = some b' ∧ Later b b'
 | [], a, a', b, _, _, h, hL => by
  simp [earlyL] at h
  subst h
  exact ⟨a', by simp [woL, earlyL], hL⟩
 | s :: l, a, a', b, hm, ha, h, hL => by
  have hx := hm s (List.mem_cons_self ..)
  have hr := fun z hz => hm z (List.mem_cons_of_mem s hz)
  rw [List.map_cons, earlyL] at h
  split at h
  · rename_i hk
    have hsv := hx.2
    by_cases hs : s.1 = r
    · rw [wo_cons_own hs]
      exact early_less hr hx.1 h (later_skip ha hx hL (by omega))
    · have hle := later_at hL hx
      rw [wo_cons_other hs, List.map_cons, earlyL, if_pos (by omega)]
      exact early_less hr hx.1 h (later_same (x := g s) (by omega))
  · cases h
theorem acc_wo (t : List Rq) (r : Int) : ∀ l : List (Int × Int), acc t l = acc t (woL r l) + acc t (ofR r l)
 | [] => by simp [woL, ofR, acc]
 | s :: l => by
  have ih := acc_wo t r l
  by_cases hs : s.1 = r
  · rw [wo_cons_own hs, ofR_cons_same hs, acc, acc]; omega
  · rw [wo_cons_other hs, ofR_cons_other hs, acc, acc]; omega
theorem ld_nonneg {t : List Rq} (ht : ∀ q ∈ t, q.chk = 0) (r : Int) : 0 ≤ ldR t r := by
 unfold ldR
 cases h : t[r.toNat]? with
 | none => exact Int.le_refl _
 | some q => have := (chk_ld ht q (List.mem_of_getElem? h)).1; show 0 ≤ q.ld; omega
theorem acc_own {t : List Rq} (ht : ∀ q ∈ t, q.chk = 0) {r : Int} {p q : List (Int × Int)} (h : ofR r (p ++ q) = [(r, 0), (r, 1)] ∨ ofR r (p ++ q) = []) : 0 ≤ acc t (ofR r p) := by
 have hn := ld_nonneg ht r
 rw [ofR_append] at h
 generalize ofR r p = a at h
 generalize ofR r q = b at h
 match a, h with
 | [], _ => simp [acc]
 | [x], .inl h => simp at h; simp [acc, h.1, stN, sg]; exact hn
 | [x, y], .inl h => simp at h; simp [acc, h.1, h.2.1, stN, sg]; omega
 | x :: y :: z :: a, .inl h => simp at h
 | x :: a, .inr h => simp at h
theorem ofR_route {l : List (Int × Int)} (h : isR l = true) (r : Int) : ofR r l = [(r, 0), (r, 1)] ∨ ofR r l = [] := by
 rcases Decidable.em (∃ s ∈ l, s.1 = r) with ⟨s, hs, rfl⟩ | hn
 · exact .inl (isR_iff.1 h s hs).2
 · exact .inr (noR_ofR.1 (noR_iff.2 fun s hs e => hn ⟨s, hs, e⟩))
theorem board_less {t : List Rq} {c r : Int} (hc : 0 ≤ c) (ht : ∀ q ∈ t, q.chk = 0) : ∀ {l pre : List (Int × Int)}, isR (pre ++ l) = true → boardB c t pre l = true → boardB c t (woL r pre) (woL r l) = true
 | [], _, _, _ => rfl
 | s :: l, pre, hR, h => by
  have e : pre ++ s :: l = (pre ++ [s]) ++ l := by simp
  rw [boardB, Bool.and_eq_true, decide_eq_true_eq] at h
  have ih := board_less (r := r) hc ht (l := l) (pre := pre ++ [s]) (by rw [← e]; exact hR) h.2
  by_cases hs : s.1 = r
  · rw [wo_append, wo_cons_own hs, show woL r ([] : List (Int × Int)) = [] from rfl, List.append_nil] at ih
    rw [wo_cons_own hs]
    exact ih
  · rw [wo_append, wo_cons_other hs, show woL r ([] : List (Int × Int)) = [] from rfl] at ih
    rw [wo_cons_other hs, boardB, Bool.and_eq_true, decide_eq_true_eq]
    refine ⟨?_, ih⟩
    have h1 := acc_wo t r (pre ++ [s])
    have h2 := acc_own ht (p := pre ++ [s]) (q := l) (r := r) (by rw [← e]; exact ofR_route hR r)
    rw [wo_append, wo_cons_other hs, show woL r ([] : List (Int × Int)) = [] from rfl] at h1
    omega
theorem isR_wo {l : List (Int × Int)} (h : isR l = true) (r : Int) : isR (woL r l) = true := by
 rw [isR_iff]
 intro s hs
 have hm : s ∈ l ∧ s.1 ≠ r := by simpa [woL] using hs
 have h1 := isR_iff.1 h s hm.1
 exact ⟨h1.1, by rw [ofR_wo hm.2]; exact h1.2⟩
theorem Dr.less {v : Vh} {l : List (Int × Int)} {t : List Rq} (h : Dr v l t) (r : Int) : Dr v (woL r l) t :=
 ⟨h.hv, h.ht, isR_wo h.hl r, Nat.le_trans (wo_length r l) h.hn, fun s hs => h.hr s (show s ∈ l ∧ s.1 ≠ r by simpa [woL] using hs).1⟩
theorem Dr.may {v : Vh} {l : List (Int × Int)} {t : List Rq} (h : Dr v l t) : ∀ s ∈ l, MayV (visV t s) := by
 intro s hs
 obtain ⟨x, h1, h2, h3⟩ := h.vis hs
 obtain ⟨q, hq, _, _, _, hk⟩ := visO_some h1
 have hc := h.ht q (List.mem_of_getElem? hq)
 unfold Rq.chk at hc
 obtain ⟨⟨c1, c2⟩, _, _, c4, c5⟩ := (Order.chk_iff ..).1 hc
 rw [h3]
 rcases hk with ⟨_, rfl⟩ | ⟨_, rfl⟩
 · exact ⟨c1, c4⟩
 · exact ⟨c2, c4⟩
theorem less_serves {v : Vh} {l : List (Int × Int)} {t : List Rq} (h : Dr v l t) (r : Int) :
 (∀ ts, rightB v l t ts = true → rightB v (woL r l) t (restL r l ts) = true) ∧ ((faultV v l t).1 = 0 → (faultV v (woL r l) t).1 = 0) := by
 have hv := h.hv
 unfold Vh.chk at hv
 rw [Order.veh_iff] at hv
 obtain ⟨hm, ⟨hc, _⟩, _⟩ := hv
 have hhome : MayV (homeV v) := ⟨hm, Int.le_refl _⟩
 have hs0 : Later (sp0 v) (sp0 v) := fun p _ => Int.le_refl _
 have hbd : boardB v.cp t [] l = true → boardB v.cp t [] (woL r l) = true := fun hb => board_less (r := r) (pre := []) (by omega) h.ht h.hl hb
 constructor
 · intro ts hr
   obtain ⟨h1, hb, b, h2, h3⟩ := h.right.1 hr
   obtain ⟨b', e1, e2⟩ := kept_less (r := r) (a' := sp0 v) h.may hm h2 hs0
   exact (h.less r).right.2 ⟨restL_length r l ts h1, hbd hb, b', e1, by have := later_at e2 hhome; omega⟩
 · intro hr
   obtain ⟨hb, b, h2, h3⟩ := h.fault.1 hr
   obtain ⟨b', e1, e2⟩ := early_less (r := r) (a' := sp0 v) h.may hm h2 hs0
   exact (h.less r).fault.2 ⟨hbd hb, b', e1, by have := later_at e2 hhome; omega⟩
end Go.Proofs.YteclpblfleakhaaGreatDoor.Feas
namespace Go.Proofs.YteclpblfleakhaaGreatDoor.Load
open Go.RowKit Go.Sort Go.Proofs.YteclpblfleakhaaGreatDoor.Mem Go.Proofs.YteclpblfleakhaaGreatDoor.Route Go.Proofs.YteclpblfleakhaaGreatDoor.When
set_option linter.unusedVariables false
theorem any_snoc {α : Type} (p : α → Bool) (l : List α) (x : α) : (l ++ [x]).any p = (l.any p || p x) := by simp
theorem takeA {α : Type} {l : List α} {k : Nat} {s : α} (h : l[k]? = some s) : l.take (k + 1) = l.take k ++ [s] := by rw [List.take_add_one, h]; rfl
set_option maxRecDepth 100000 in
set_option maxHeartbeats 2000000 in
theorem IndexFunc_any (n : Nat) (c : Value) (p : Int → Bool) (v : Value) (a : List Int) (hl : a.length ≤ 1000000) (w : World) (h : Ints w.heap.size w v a) (hin : ∀ args w, (callFunc n args).run Tryz.prog w = .ok (.enter n args) w)
 (hp : ∀ x ∈ a, ∀ w1, Below w.heap.size w w1 → Calls Tryz.prog n #[.int .i64 x, c] w1 fun e w' => e = .returned (.bool (p x)) ∧ Below w1.heap.size w1 w') :
 Calls Tryz.prog 124 #[v, .func (.func n) #[] #[c]] w fun e w' => (∃ i : Int, e = .returned (.int .i64 i) ∧ decide (0 ≤ i) = a.any p) ∧ Below w.heap.size w w' := by
 obtain ⟨x, N, cap, rfl, hN', hc1, hc2⟩ := h.opened
 have h' := Lib.hid h
 have hp' := Lib.hid hp
 rw [hN'.out] at hl
 clear h hp
 go_enter Tryz.func124, Tryz.ntmps124
 go_wp2
 go_loopw [8] (fun i wr => ∃ k : Nat, k ≤ N ∧ i = .int .i64 k ∧ Hid ((a.take k).any p = false) ∧ Below w.heap.size w wr)
  (fun i _ => N - (intOf i).toNat)
 case atStart => exact ⟨0, by omega, rfl, Lib.hid (by simp), Below.refl _ _⟩
 case round =>
  obtain ⟨k, hk, rfl, hno, hbw⟩ := hrel
  by_cases hlt : k < N
  · obtain ⟨s, hs⟩ : ∃ s, a[k]? = some s := ⟨a[k]'(by rw [hN'.out]; exact hlt), List.getElem?_eq_getElem _⟩
    obtain ⟨g, o, rfl, hg, e1⟩ := Ints.number (h'.out.keep hbw (Nat.le_refl _)) hs
    have hcall := hp'.out s (List.mem_of_getElem? hs) _ hbw
    have hyes := Lib.hid (fun e : p s = true => (List.any_eq_true.2 ⟨s, List.mem_of_getElem? hs, e⟩ : a.any p = true))
    have hnot := Lib.hid (fun e : p s = false => (by rw [takeA hs, any_snoc, hno.out, e]; rfl : (a.take (k + 1)).any p = false))
    clear hs hno
    go_wp2_with fail
    refine hcall.mono ?_
    clear hcall e1
    rintro e w2 ⟨rfl, hb2⟩
    have hB2 := hbw.trans (hb2.mono hbw.size)
    clear hb2 hbw
    cases h1 : p s
    · have hn2 := Lib.hid (hnot.out h1)
      clear hyes hnot h1
      go_wp2
      go_roundw
      case rel => exact ⟨k + 1, by omega, by go_num, hn2, hB2⟩
      case measure => simp [intOf]; omega
    · have hn2 := Lib.hid (hyes.out h1)
      clear hyes hnot h1
      go_wp2
      go_ret
      exact ⟨⟨_, rfl, by rw [hn2.out]; simp⟩, hB2⟩
  · obtain rfl : k = N := by omega
    have he : a.take k = a := by rw [← hN'.out, List.take_length]
    rw [he] at hno
    clear he
    go_wp2
    go_ret
    exact ⟨⟨_, rfl, by rw [hno.out]; rfl⟩, hbw⟩
theorem ContainsFunc_any (n : Nat) (c : Value) (p : Int → Bool) (v : Value) (a : List Int) (hl : a.length ≤ 1000000) (w : World) (h : Ints w.heap.size w v a) (hin : ∀ args w, (callFunc n args).run Tryz.prog w = .ok (.enter n args) w)
 (hp : ∀ x ∈ a, ∀ w1, Below w.heap.size w w1 → Calls Tryz.prog n #[.int .i64 x, c] w1 fun e w' => e = .returned (.bool (p x)) ∧ Below w1.heap.size w1 w') :
 Calls Tryz.prog 116 #[v, .func (.func n) #[] #[c]] w fun e w' => e = .returned (.bool (a.any p)) ∧ Below w.heap.size w w' := by
 have hI := IndexFunc_any n c p v a hl w h hin hp
 obtain ⟨x, N, cap, rfl, hN', hc1, hc2⟩ := h.opened
 clear h hp
 go_enter Tryz.func116, Tryz.ntmps116
 go_wp2_with fail
 refine hI.mono ?_
 clear hI
 rintro e w1 ⟨⟨i, rfl, hi⟩, hb1⟩
 have hi' := Lib.hid hi
 clear hi
 go_wp2
 go_ret
 exact ⟨ret_bool hi'.out, hb1⟩
theorem out_any (c Nt ct : Nat) (xt : Option Addr) (x : Int) (w : World) (hc : w.cell? ⟨c, 0, none⟩ = some (.slice xt Nt ct)) (h1 : Nt ≤ ct) (h2 : ct ≤ maxLen) :
 Calls Tryz.prog 117 #[.int .i64 x, .pointer (some ⟨c, 0, none⟩)] w fun e w' => e = .returned (.bool (decide ((Nt : Int) ≤ x))) ∧ Below w.heap.size w w' := by
 unfold maxLen at h2
 go_enter Tryz.func117, Tryz.ntmps117
 go_wp2
 go_ret
 exact ⟨ret_bool (by simp), Below.refl _ _⟩
theorem bad_any (c Nt ct : Nat) (xt : Option Addr) (t : List Rq) (x : Int) (q : Rq) (w : World) (hc : w.cell? ⟨c, 0, none⟩ = some (.slice xt Nt ct)) (hT : Rqs w.heap.size w (.slice xt Nt ct) t) (h0 : 0 ≤ x) (hx : x < Nt) (hq : t[x.toNat]? = some q) (h1 : Nt ≤ ct) (h2 : ct ≤ maxLen) :
 Calls Tryz.prog 118 #[.int .i64 x, .pointer (some ⟨c, 0, none⟩)] w fun e w' => e = .returned (.bool (decide (q.chk ≠ 0))) ∧ Below w.heap.size w w' := by
 unfold maxLen at h2
 obtain ⟨k, rfl⟩ : ∃ k : Nat, x = k := ⟨x.toNat, by omega⟩
 simp only [Int.toNat_natCast] at hq
 obtain ⟨g, o, rfl, hg, c0, c1, c2, c3, c4, c5, c6, c7, c8, c9⟩ := Rqs.at hT hq
 have hk : k < Nt := by omega
 clear hT hq
 have hC := Order.Check_any q.fx q.fy q.tx q.ty q.pe q.pl q.de q.dl q.ld q.sv w
 obtain ⟨Q, hQ⟩ : ∃ Q, q.chk = Q := ⟨_, rfl⟩
 have hQ2 : Order.chk q.fx q.fy q.tx q.ty q.pe q.pl q.de q.dl q.ld q.sv = Q := hQ
 rw [hQ2] at hC
 rw [hQ]
 clear hQ hQ2
 go_enter Tryz.func118, Tryz.ntmps118
 go_wp2_with fail
 refine hC.mono ?_
 rintro e w1 ⟨rfl, hb1⟩
 go_wp2
 go_ret
 exact ⟨ret_bool (by by_cases h : Q = 0 <;> simp [h]), hb1⟩
theorem chk1_in (args : Array Value) (w : World) : (callFunc 117 args).run Tryz.prog w = .ok (.enter 117 args) w := by
 simp [callFunc, Tryz.func117]
 rfl
theorem chk2_in (args : Array Value) (w : World) : (callFunc 118 args).run Tryz.prog w = .ok (.enter 118 args) w := by
 simp [callFunc, Tryz.func118]
 rfl
theorem told_route {l : List (Int × Int)} {t : List Rq} (h : checkV l ≠ 0) : toldV l t = checkV l := by unfold toldV; rw [if_pos h]
theorem told_out {l : List (Int × Int)} {t : List Rq} (h : checkV l = 0) (h1 : l.any (fun s => outB t s.1) = true) : toldV l t = 8 := by unfold toldV; rw [if_neg (by omega), if_pos h1]
theorem told_bad {l : List (Int × Int)} {t : List Rq} (h : checkV l = 0) (h1 : l.any (fun s => outB t s.1) = false) (h2 : l.any (fun s => badB t s.1) = true) : toldV l t = 2 := by unfold toldV; rw [if_neg (by omega), if_neg (by rw [h1]; simp), if_pos h2]
theorem told_ok {l : List (Int × Int)} {t : List Rq} (h : checkV l = 0) (h1 : l.any (fun s => outB t s.1) = false) (h2 : l.any (fun s => badB t s.1) = false) : toldV l t = 0 := by unfold toldV; rw [if_neg (by omega), if_neg (by rw [h1]; simp), if_neg (by rw [h2]; simp)]
theorem in_of {l : List (Int × Int)} {t : List Rq} (h : checkV l = 0) (h1 : l.any (fun s => outB t s.1) = false) {r : Int} (hr : r ∈ picksL l) : 0 ≤ r ∧ r < t.length ∧ ∃ q, t[r.toNat]? = some q ∧ badB t r = decide (q.chk ≠ 0) := by
 obtain ⟨s, hs, rfl⟩ := (picks_mem (check_isR h).1).1 hr
 have h2 := (isR_iff.1 (check_isR h).1 s hs).1
 have h3 : outB t s.1 = false := by
  cases e : outB t s.1
  · rfl
  · have h9 : l.any (fun s => outB t s.1) = true := List.any_eq_true.2 ⟨s, hs, e⟩
    rw [h1] at h9
    cases h9
 simp only [outB, decide_eq_false_iff_not] at h3
 have hq : t[s.1.toNat]? = some (t[s.1.toNat]'(by omega)) := List.getElem?_eq_getElem _
 exact ⟨h2, by omega, _, hq, by unfold badB; rw [hq]⟩
set_option maxRecDepth 100000 in
set_option maxHeartbeats 2000000 in
theorem check_any (vl vt : Value) (l : List (Int × Int)) (t : List Rq) (hl : l.length ≤ 1000000) (hnum : Nums l) (w : World) (hL : Row w.heap.size w vl l) (hT : Rqs w.heap.size w vt t) :
 Calls Tryz.prog 106 #[vl, vt] w fun e w' => e = .returned (.int .i64 (toldV l t)) ∧ Below w.heap.size w w' := by
 have hb0 : Below w.heap.size w (w.alloc (.cells #[vt] 37)) := (Below.refl _ _).alloc (Nat.le_refl _) _
 have hA := At.new w 37 #[vt]
 have hR := Route.Check_any vl l hl hnum _ (hL.on hb0)
 have hRq := fun w1 (hb : Below w.heap.size w w1) => Route.Requests_any vl l hl hnum w1 (hL.on hb)
 obtain ⟨xl, Nl, capl, rfl, hNl, hl0, hlc1, hlc2⟩ := hL.opened
 obtain ⟨xt, Nt, capt, rfl, hNt0, htc1, htc2, ht0⟩ := hT.opened
 have hNt := Lib.hid hNt0
 have hT' := Lib.hid hT
 have hRq' := Lib.hid hRq
 obtain ⟨E, hE⟩ : ∃ E, toldV l t = E := ⟨_, rfl⟩
 obtain ⟨C, hC⟩ : ∃ C, checkV l = C := ⟨_, rfl⟩
 rw [hE]
 rw [hC] at hR
 have hE' := Lib.hid hE
 have hC' := Lib.hid hC
 have hl2 : (reqsL l).length ≤ 1000000 := by
  unfold reqsL
  split
  · have := picks_le l; omega
  · simp
 have hl3 := Lib.hid hl2
 clear hl hnum hL hT hNt0 ht0 hRq hE hC hl2
 go_enter Tryz.func106, Tryz.ntmps106
 go_wp2_with fail
 refine hR.mono ?_
 clear hR
 rintro e w1 ⟨rfl, hb1⟩
 have hB1 := hb0.trans (hb1.mono hb0.size)
 have hA1 := hA.keep hb1 hA.inside
 clear hb0 hb1 hA
 cases hc0 : (C == 0)
 · have hc1 : (C != 0) = true := by simpa using hc0
   have hw := Lib.hid (told_route (t := t) (show checkV l ≠ 0 by rw [hC'.out]; simpa using hc0))
   go_wp2
   go_ret
   exact ⟨ret_int (by rw [← hE'.out, hw.out, hC'.out]), hB1⟩
 · have hc1 : (C != 0) = false := by simpa using hc0
   have hz : Hid (checkV l = 0) := Lib.hid (by rw [hC'.out]; simpa using hc0)
   have hre : Hid (reqsL l = picksL l) := Lib.hid (reqs_good hz.out)
   go_wp2_with fail
   refine (hRq'.out _ hB1).mono ?_
   rintro e w2 ⟨⟨v2, rfl, hv2⟩, hb2⟩
   have hB2 := hB1.trans (hb2.mono hB1.size)
   have hA2 := hA1.keep hb2 hA1.inside
   rw [hre.out] at hv2
   have hlp := hl3.out
   rw [hre.out] at hlp
   have hany1 := Lib.hid (any_picks (check_isR hz.out).1 (outB t))
   have hany2 := Lib.hid (any_picks (check_isR hz.out).1 (badB t))
   have hin := Lib.hid (fun h1 r hr => in_of (l := l) (t := t) hz.out h1 (r := r) hr)
   have hlp' := Lib.hid hlp
   have hv2' := Lib.hid hv2
   have hk1 := ContainsFunc_any 117 (.pointer (some ⟨w.heap.size, 0, none⟩)) (outB t) v2 (picksL l) hlp w2 hv2 chk1_in (fun x hx w3 hb3 => by
    have := out_any w.heap.size Nt capt xt x w3 ((hA2.keep hb3 hA2.inside).cell 0) htc1 htc2
    unfold outB
    rw [hNt.out]
    exact this)
   clear hb2 hB1 hA1 hlp
   obtain ⟨y2, n2, p2, rfl, hn2, _, _⟩ := hv2.opened
   clear hv2 hn2
   rw [hany1.out] at hk1
   obtain ⟨O, hO⟩ : ∃ O, l.any (fun s => outB t s.1) = O := ⟨_, rfl⟩
   rw [hO] at hk1
   have hO' := Lib.hid hO
   clear hO hany1
   go_wp2_with fail
   refine hk1.mono ?_
   clear hk1
   rintro e w3 ⟨rfl, hb3⟩
   have hB3 := hB2.trans (hb3.mono hB2.size)
   have hA3 := hA2.keep hb3 hA2.inside
   have hv3 := hv2'.out.on hb3
   clear hb3 hB2 hA2
   cases hO2 : O
   · have hO3 : Hid (l.any (fun s => outB t s.1) = false) := Lib.hid (hO'.out.trans hO2)
     subst hO2
     have hk2 := ContainsFunc_any 118 (.pointer (some ⟨w.heap.size, 0, none⟩)) (badB t) _ (picksL l) hlp'.out w3 hv3 chk2_in (fun x hx w4 hb4 => by
      obtain ⟨h0, h1, q, hq, hb⟩ := hin.out hO3.out x hx
      rw [hb]
      exact bad_any w.heap.size Nt capt xt t x q w4 ((hA3.keep hb4 hA3.inside).cell 0) ((hT'.out.on hB3).on hb4) h0 (by rw [← hNt.out]; exact h1) hq htc1 htc2)
     rw [hany2.out] at hk2
     obtain ⟨B, hB⟩ : ∃ B, l.any (fun s => badB t s.1) = B := ⟨_, rfl⟩
     rw [hB] at hk2
     have hB' := Lib.hid hB
     clear hB hany2 hv3 hA3
     go_wp2_with fail
     refine hk2.mono ?_
     clear hk2
     rintro e w4 ⟨rfl, hb4⟩
     have hB4 := hB3.trans (hb4.mono hB3.size)
     cases hb2 : B
     · have hw := Lib.hid (told_ok (t := t) hz.out hO3.out (hB'.out.trans hb2))
       subst hb2
       go_wp2
       go_ret
       exact ⟨ret_int (by rw [← hE'.out, hw.out]), hB4⟩
     · have hw := Lib.hid (told_bad (t := t) hz.out hO3.out (hB'.out.trans hb2))
       subst hb2
       go_wp2
       go_ret
       exact ⟨ret_int (by rw [← hE'.out, hw.out]), hB4⟩
   · have hw := Lib.hid (told_out (t := t) hz.out (hO'.out.trans hO2))
     subst hO2
     go_wp2
     go_ret
     exact ⟨ret_int (by rw [← hE'.out, hw.out]), hB3⟩
end Go.Proofs.YteclpblfleakhaaGreatDoor.Load
namespace Go.Proofs.YteclpblfleakhaaGreatDoor.Feas
open Go.Proofs.YteclpblfleakhaaGreatDoor.Order Go.Proofs.YteclpblfleakhaaGreatDoor.Place Go.Proofs.YteclpblfleakhaaGreatDoor.Route Go.Proofs.YteclpblfleakhaaGreatDoor.When Go.Proofs.YteclpblfleakhaaGreatDoor.Load Go.Proofs.YteclpblfleakhaaGreatDoor.Window
set_option linter.unusedVariables false
def profR (t : List Rq) : List (Int × Int) → List (Int × Int) → List Int
 | _, [] => []
 | pre, s :: l => acc t (pre ++ [s]) :: profR t (pre ++ [s]) l
theorem profR_range (t : List Rq) : ∀ (l pre : List (Int × Int)), profR t pre l = (List.range l.length).map fun k => acc t (pre ++ l.take (k + 1))
 | [], _ => rfl
 | s :: l, pre => by
  rw [profR, profR_range t l (pre ++ [s]), List.length_cons, List.range_succ_eq_map, List.map_cons, List.map_map]
  simp [Function.comp_def]
theorem prof_profR (t : List Rq) (l : List (Int × Int)) : prof t l = profR t [] l := by
 rw [profR_range]
 rfl
theorem fstF_ge (c : Int) : ∀ (p : List Int) (k : Nat), fstF c k p = -1 ∨ (k : Int) ≤ fstF c k p
 | [], k => .inl rfl
 | x :: p, k => by
  rw [fstF]
  split
  · exact .inr (Int.le_refl _)
  · rcases fstF_ge c p (k + 1) with h | h
    · exact .inl h
    · exact .inr (by omega)
theorem fstF_more (c : Int) : ∀ (p : List Int) (k : Nat), moreB c p = decide (fstF c k p ≠ -1)
 | [], k => rfl
 | x :: p, k => by
  rw [fstF]
  unfold moreB
  rw [List.any_cons]
  split
  · rename_i h
    rw [decide_eq_true h, Bool.true_or]
    exact (decide_eq_true (by omega)).symm
  · rename_i h
    rw [decide_eq_false h, Bool.false_or]
    exact fstF_more c p (k + 1)
theorem walk_code {v : Vh} {t : List Rq} : ∀ {l pre : List (Int × Int)} {a : Sp}, (∀ p s q, l = p ++ s :: q → stB t (pre ++ p) s = true) → (pre ++ l).length ≤ 16 →
 ((walkV v t earlyP pre a l).1 = 0 ∧ fstF v.cp pre.length (profR t pre l) = -1 ∧ earlyL a (visL t l) = some (walkV v t earlyP pre a l).2.2) ∨
 ((walkV v t earlyP pre a l).1 = 10 ∧ fstF v.cp pre.length (profR t pre l) = ((walkV v t earlyP pre a l).2.1 : Int)) ∨
 ((walkV v t earlyP pre a l).1 = 9 ∧ earlyL a (visL t l) = none ∧ (fstF v.cp pre.length (profR t pre l) = -1 ∨ ((walkV v t earlyP pre a l).2.1 : Int) < fstF v.cp pre.length (profR t pre l)))
 | [], pre, a, _, _ => .inl ⟨rfl, rfl, rfl⟩
 | s :: l, pre, a, hs, hl => by
  have h1 := hs [] s l rfl
  rw [List.append_nil] at h1
  have hl' : ((pre ++ [s]) ++ l).length ≤ 16 := by simpa using hl
  have hk : pre.length < 16 := by simp at hl; omega
  have ih := walk_code (v := v) (t := t) (l := l) (pre := pre ++ [s]) (a := goP earlyP pre.length a (visV t s)) (fun p x q e => by
   have := hs (s :: p) x q (by rw [e]; rfl)
   simpa using this) hl'
  have ev : visL t (s :: l) = visV t s :: visL t l := rfl
  have en : (pre ++ [s]).length = pre.length + 1 := by simp
  rw [en] at ih
  rw [profR, fstF, ev, earlyL]
  by_cases hb : acc t (pre ++ [s]) ≤ v.cp
  · rw [if_neg (by omega)]
    by_cases hp : arV a (visV t s) ≤ (visV t s).wl
    · have h2 : srvV v t earlyP pre a s = 0 := srv_bits.2 ⟨hk, h1, hb, decide_eq_true hp⟩
      rw [walkV_go h2, if_pos hp]
      exact ih
    · have h2 : srvV v t earlyP pre a s = 9 := by
       unfold srvV
       rw [if_neg (by omega), if_neg (by simp [h1]), if_neg (by omega), if_pos (by simpa [earlyP] using hp)]
      rw [walkV_stop (by omega), if_neg hp]
      refine .inr (.inr ⟨h2, rfl, ?_⟩)
      rcases fstF_ge v.cp (profR t (pre ++ [s]) l) (pre.length + 1) with h | h
      · exact .inl h
      · exact .inr (by dsimp only; omega)
  · rw [if_pos (by omega)]
    have h2 : srvV v t earlyP pre a s = 10 := by
     unfold srvV
     rw [if_neg (by omega), if_neg (by simp [h1]), if_pos (by omega)]
    rw [walkV_stop (by omega)]
    exact .inr (.inl ⟨h2, rfl⟩)
theorem Dr.told {v : Vh} {l : List (Int × Int)} {t : List Rq} (h : Dr v l t) : toldV l t = 0 := by
 have hc : checkV l = 0 := by
  unfold checkV
  rw [if_neg (by have := h.hn; omega), if_pos h.hl]
 refine told_ok hc ?_ ?_
 · rw [Bool.eq_false_iff]
   intro e
   obtain ⟨s, hs, e⟩ := List.any_eq_true.1 e
   have := h.hr s hs
   simp [outB] at e
   omega
 · rw [Bool.eq_false_iff]
   intro e
   obtain ⟨s, hs, e⟩ := List.any_eq_true.1 e
   have h1 := h.hr s hs
   have h2 := (isR_iff.1 h.hl s hs).1
   have hq : t[s.1.toNat]? = some (t[s.1.toNat]'(by omega)) := List.getElem?_eq_getElem _
   unfold badB at e
   rw [hq] at e
   have := h.ht _ (List.getElem_mem (h := (by omega : s.1.toNat < t.length)))
   simp [this] at e
theorem Dr.fit {v : Vh} {l : List (Int × Int)} {t : List Rq} (h : Dr v l t) : fitAt v l t = fstF v.cp 0 (profR t [] l) ∧ fitE v l t = if fstF v.cp 0 (profR t [] l) = -1 then 0 else 10 := by
 have hp : profV l t = profR t [] l := by unfold profV; rw [if_pos h.told, prof_profR]
 have hv := h.hv
 have ht := h.told
 unfold fitAt fitE fstV
 rw [if_pos hv, if_neg (by omega), if_neg (by omega), hp, fstF_more v.cp _ 0]
 refine ⟨rfl, ?_⟩
 by_cases e : fstF v.cp 0 (profR t [] l) = -1
 · rw [if_pos e, if_neg (by simpa using e)]
 · rw [if_neg e, if_pos (by simpa using e)]
theorem Dr.agree {v : Vh} {l : List (Int × Int)} {t : List Rq} (h : Dr v l t) :
 ((faultV v l t).1 = 0 ∧ When.errT v l t = 0 ∧ fitE v l t = 0) ∨
 ((faultV v l t).1 = 10 ∧ fitE v l t = 10 ∧ (faultV v l t).2.1 = 2 ∧ (faultV v l t).2.2 = fitAt v l t) ∨
 ((faultV v l t).1 = 9 ∧ When.errT v l t = 9 ∧ (fitE v l t = 0 ∨ fitE v l t = 10 ∧ (faultV v l t).2.1 = 2 ∧ (faultV v l t).2.2 < fitAt v l t)) := by
 obtain ⟨f1, f2⟩ := h.fit
 have hw := walk_code (v := v) (t := t) (l := l) (pre := []) (a := sp0 v) (fun p s q e => route_stB h.hl h.hr e) (by simpa using h.hn)
 have hb : badK t < 0 := badK_ok.2 h.ht
 have ha : acc t l = 0 := acc_last t h.hl
 have hv := h.hv
 have hlk : lookV v l t earlyP = if (walkV v t earlyP [] (sp0 v) l).1 ≠ 0 then ((walkV v t earlyP [] (sp0 v) l).1, 2, ((walkV v t earlyP [] (sp0 v) l).2.1 : Int)) else (homeE v t l (walkV v t earlyP [] (sp0 v) l).2.2, 3, (l.length : Int)) := by
  unfold lookV
  rw [if_neg (by omega), if_neg (by omega)]
 have herr := h.errT
 have hok := h.okT
 simp only [List.length_nil] at hw
 rw [f1, f2, herr]
 unfold faultV
 rcases hw with ⟨w1, w2, w3⟩ | ⟨w1, w2⟩ | ⟨w1, w2, w3⟩
 · rw [if_neg (by omega)] at hlk
   by_cases he : arV (walkV v t earlyP [] (sp0 v) l).2.2 (homeV v) ≤ v.en
   · have : (lookV v l t earlyP).1 = 0 := by
      rw [hlk]
      dsimp only [homeE]
      rw [if_neg (by omega), if_neg (by omega)]
     rw [if_pos this, if_pos (hok.2 ⟨_, w3, he⟩), if_pos w2]
     exact .inl ⟨rfl, rfl, rfl⟩
   · have h9 : homeE v t l (walkV v t earlyP [] (sp0 v) l).2.2 = 9 := by
      unfold homeE
      rw [if_neg (by omega), if_pos (by omega)]
     rw [hlk, h9, if_neg (by dsimp only; omega), if_pos w2, if_neg]
     · exact .inr (.inr ⟨rfl, rfl, .inl rfl⟩)
     · intro e
       obtain ⟨b, e1, e2⟩ := hok.1 e
       rw [w3] at e1
       cases e1
       exact he e2
 · rw [if_pos (by omega), w1] at hlk
   rw [hlk]
   exact .inr (.inl ⟨rfl, if_neg (by omega), rfl, w2.symm⟩)
 · rw [if_pos (by omega), w1] at hlk
   have hno : ¬ When.okT v l t = true := fun e => by
    obtain ⟨b, e1, _⟩ := hok.1 e
    rw [w2] at e1
    cases e1
   rw [hlk]
   refine .inr (.inr ⟨rfl, if_neg hno, ?_⟩)
   rcases w3 with w3 | w3
   · exact .inl (if_pos w3)
   · exact .inr ⟨if_neg (by omega), rfl, w3⟩
end Go.Proofs.YteclpblfleakhaaGreatDoor.Feas

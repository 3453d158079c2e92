/-
  The laws' own p, d and ints; rows that have just been laid; 'works': the chapter's examples hold.
-/
import Derived.Test.YtphfjaelglafnaaDoorLoadFits
import Derived.Test.YtphfjaelglafnaaDoorLoadOpen
namespace Go.Proofs.YtphfjaelglafnaaDoor.Load
open Go.RowKit Go.Proofs.YtphfjaelglafnaaDoor.Mem Go.Proofs.YtphfjaelglafnaaDoor.Route Go.Proofs.YtphfjaelglafnaaDoor.When
set_option linter.unusedVariables false

set_option maxRecDepth 100000 in
set_option maxHeartbeats 1000000 in
theorem ints_any (sv tv : Value) (xs ys : List Int) (hx : xs.length ≤ 140737488351232) (w : World) (hI : Ints w.heap.size w sv xs) (hJ : Ints w.heap.size w tv ys) :
    Calls Tryd.prog 12 #[sv, tv] w fun e w' => e = .returned (.bool (decide (xs = ys))) ∧ Below w.heap.size w w' := by
  obtain ⟨x, N, cap, rfl, hN, hc1, hc2⟩ := hI.opened
  obtain ⟨y, M, cap2, rfl, hM, hc3, hc4⟩ := hJ.opened
  rw [hN.out] at hx
  have hI' := Lib.hid hI
  have hJ' := Lib.hid hJ
  clear hI hJ
  by_cases hl : N = M
  · subst hl
    go_enter Tryd.func12, Tryd.ntmps12
    go_wp2
    go_loopw [5] (fun i wr => ∃ k : Nat, k ≤ N ∧ i = .int .i64 k ∧ Hid (xs.take k = ys.take k) ∧ Below w.heap.size w wr) (fun i _ => N - (intOf i).toNat)
    case atStart => exact ⟨0, by omega, rfl, Lib.hid (by simp), Below.refl _ _⟩
    case round =>
      obtain ⟨k, hk, rfl, hag, hbw⟩ := hrel
      by_cases hlt : k < N
      · obtain ⟨s, hs⟩ : ∃ s, xs[k]? = some s := ⟨xs[k]'(by rw [hN.out]; exact hlt), List.getElem?_eq_getElem _⟩
        obtain ⟨t, ht⟩ : ∃ s, ys[k]? = some s := ⟨ys[k]'(by rw [hM.out]; exact hlt), List.getElem?_eq_getElem _⟩
        obtain ⟨g, o, rfl, hg, e1⟩ := Ints.number hI'.out hs
        obtain ⟨g2, o2, rfl, hg2, e3⟩ := Ints.number hJ'.out ht
        have e1 := (hbw.cell (p := ⟨g, o + k, none⟩) hg).trans e1
        have e3 := (hbw.cell (p := ⟨g2, o2 + k, none⟩) hg2).trans e3
        have hno := Lib.hid (unlike_at hs ht)
        have hyes := Lib.hid (alike_succ hs ht hag.out)
        clear hs ht
        cases h1 : (s == t)
        · go_wp2
          go_quiet (fail)
          go_wp2
          go_ret
          exact ⟨ret_bool (hno.out (by simpa using h1)).symm, below_drewN hbw nq⟩
        · go_wp2
          go_quiet (fail)
          go_wp2
          go_roundw
          case rel => exact ⟨k + 1, by omega, by go_num, Lib.hid (hyes.out (by simpa using h1)), below_drewN hbw nq⟩
          case measure => simp [intOf]; omega
      · obtain rfl : k = N := by omega
        go_wp2
        go_ret
        exact ⟨ret_bool (alike_all hN.out hM.out hag.out).symm, hbw⟩
  · have hd := Lib.hid (unlike_len (xs := xs) (ys := ys) (by rw [hN.out, hM.out]; exact hl))
    have hl' : ((N : Int) == M) = false := by rw [beq_eq_false_iff_ne]; omega
    go_enter Tryd.func12, Tryd.ntmps12
    go_wp2
    go_ret
    exact ⟨ret_bool hd.out.symm, Below.refl _ _⟩

theorem res_stop {fn : Func} {p : Tmp} (h : fn.results = #[.cell p 58]) {tmps : Array Value} {w : World} {g : Nat} {x y : Value} (hp : tmps.getD p undef = .pointer (some ⟨g, 0, none⟩))
    (hA : At w g 58 #[x, y]) : (results fn tmps).run Tryd.prog w = .ok (.agg #[x, y]) w := by
  have hp' : tmps[p]?.getD undef = .pointer (some ⟨g, 0, none⟩) := by simpa using hp
  have c0 := hA.cell 0
  have c1 := hA.cell 1
  simp at c0 c1
  simp only [results, h]
  go_simp
theorem p_any (a : Int) (w : World) :
    Calls Tryd.prog 22 #[.int .i64 a] w fun e w' => e = .returned (.agg #[.int .i64 a, .int .i64 0]) ∧ w' = w.alloc (.cells #[.int .i64 a, .int .i64 0] 58) := by
  go_enter Tryd.func22, Tryd.ntmps22
  go_wp2
  exact bodyPost_ret (res_stop rfl rfl (At.new _ _ _)) rfl ⟨rfl, rfl⟩
theorem d_any (a : Int) (w : World) :
    Calls Tryd.prog 23 #[.int .i64 a] w fun e w' => e = .returned (.agg #[.int .i64 a, .int .i64 1]) ∧ w' = w.alloc (.cells #[.int .i64 a, .int .i64 1] 58) := by
  go_enter Tryd.func23, Tryd.ntmps23
  go_wp2
  exact bodyPost_ret (res_stop rfl rfl (At.new _ _ _)) rfl ⟨rfl, rfl⟩

/-- A row that has just been laid. -/
theorem Row.laid {W : World} {t : TypeId} {l : List (Int × Int)} {cs : Array Value} {n k : Nat} (hn : n = W.heap.size) (hcs : cs.toList = flatS l) (hk : l.length = k) (hm : k ≤ maxLen) :
    Row (W.alloc (.cells cs t)).heap.size (W.alloc (.cells cs t)) (.slice (some ⟨n, 0, none⟩) k k) l := by
  subst hn
  subst hk
  have h := RowB.of_at (B := (W.alloc (.cells cs t)).heap.size) (m := 2) (cap := l.length) (rows := l.map stV) (At.new W t cs) (by simp) (fun r hr => by obtain ⟨s, _, rfl⟩ := List.mem_map.1 hr; rfl)
    (fun i u hu => by
      have : cs.toList[i]? = some u := by rw [hcs]; exact hu
      simpa using this) (by simp) hm
  rw [List.length_map] at h
  exact h
theorem Ints.laid {W : World} {t : TypeId} {l : List Int} {cs : Array Value} {n k : Nat} (hn : n = W.heap.size) (hcs : cs.toList = flatI l) (hk : l.length = k) (hm : k ≤ maxLen) :
    Ints (W.alloc (.cells cs t)).heap.size (W.alloc (.cells cs t)) (.slice (some ⟨n, 0, none⟩) k k) l := by
  subst hn
  subst hk
  have h := RowB.of_at (B := (W.alloc (.cells cs t)).heap.size) (m := 1) (cap := l.length) (rows := l.map inV) (At.new W t cs) (by simp) (fun r hr => by obtain ⟨s, _, rfl⟩ := List.mem_map.1 hr; rfl)
    (fun i u hu => by
      have : cs.toList[i]? = some u := by rw [hcs]; exact hu
      simpa using this) (by simp) hm
  rw [List.length_map] at h
  exact h
theorem bAlloc {w W : World} (h : Below w.heap.size w W) (o : Obj) : Below w.heap.size w (W.alloc o) := h.alloc h.size o
theorem bStep {w W V : World} (h : Below w.heap.size w W) (k : Below W.heap.size W V) : Below w.heap.size w V := h.trans (k.mono h.size)
theorem nums_of {l : List (Int × Int)} (h : (l.all fun s => decide (-1000000 ≤ s.1) && decide (s.1 ≤ 1000000) && decide (-1000000 ≤ s.2) && decide (s.2 ≤ 1000000)) = true) : Nums l := by
  intro s hs
  have := List.all_eq_true.1 h s hs
  simp only [Bool.and_eq_true, decide_eq_true_eq] at this
  exact ⟨⟨by omega, by omega⟩, by omega, by omega⟩

theorem flatQ_length {l : List (List Value)} {m : Nat} (h : ∀ r ∈ l, r.length = m) : l.flatten.length = l.length * m := by
  induction l with
  | nil => simp
  | cons r l ih =>
    rw [List.flatten_cons, List.length_append, h r (List.mem_cons_self ..), ih (fun x hx => h x (List.mem_cons_of_mem _ hx)), List.length_cons, Nat.succ_mul]
    omega
/-- A table that has just been laid. -/
theorem rqs_laid {W : World} {t : TypeId} {l : List Rq} {cs : Array Value} {n k : Nat} (hn : n = W.heap.size) (hcs : cs.toList = (l.map rqV).flatten) (hk : l.length = k) (hm : k ≤ maxLen) :
    Rqs (W.alloc (.cells cs t)).heap.size (W.alloc (.cells cs t)) (.slice (some ⟨n, 0, none⟩) k k) l := by
  subst hn
  subst hk
  have h := RowB.of_at (B := (W.alloc (.cells cs t)).heap.size) (m := 10) (cap := l.length) (rows := l.map rqV) (At.new W t cs) (by simp) (fun r hr => by obtain ⟨s, _, rfl⟩ := List.mem_map.1 hr; rfl)
    (fun i u hu => by
      have : cs.toList[i]? = some u := by rw [hcs]; exact hu
      simpa using this) (by simp) hm
  rw [List.length_map] at h
  exact h

set_option maxRecDepth 100000 in
set_option maxHeartbeats 8000000 in
theorem works_any (w : World) (hsg : Sg w) : Calls Tryd.prog 17 #[] w fun e w' => e = .returned (.bool true) ∧ Below w.heap.size w w' := by
  have hB0 := Below.refl w.heap.size w
  go_enter Tryd.func17, Tryd.ntmps17
  go_upto_region 2 with (first | (go_at_call 22; refine (p_any _ _).mono ?_; rintro e w' ⟨rfl, rfl⟩) | (go_at_call 23; refine (d_any _ _).mono ?_; rintro e w' ⟨rfl, rfl⟩))
  have hT : Hid (Rqs (w.alloc (.cells #[.int .i64 0, .int .i64 0, .int .i64 0, .int .i64 0, .int .i64 0, .int .i64 0, .int .i64 0, .int .i64 0, .int .i64 5, .int .i64 0, .int .i64 0, .int .i64 0, .int .i64 0, .int .i64 0, .int .i64 0, .int .i64 0, .int .i64 0, .int .i64 0, .int .i64 7, .int .i64 0] 55)).heap.size (w.alloc (.cells #[.int .i64 0, .int .i64 0, .int .i64 0, .int .i64 0, .int .i64 0, .int .i64 0, .int .i64 0, .int .i64 0, .int .i64 5, .int .i64 0, .int .i64 0, .int .i64 0, .int .i64 0, .int .i64 0, .int .i64 0, .int .i64 0, .int .i64 0, .int .i64 0, .int .i64 7, .int .i64 0] 55)) (.slice (some ⟨w.heap.size, 0, none⟩) 2 2) [⟨0, 0, 0, 0, 0, 0, 0, 0, 5, 0⟩, ⟨0, 0, 0, 0, 0, 0, 0, 0, 7, 0⟩]) := Lib.hid (rqs_laid rfl rfl rfl (by decide))
  have hBhT : Below w.heap.size w (w.alloc (.cells #[.int .i64 0, .int .i64 0, .int .i64 0, .int .i64 0, .int .i64 0, .int .i64 0, .int .i64 0, .int .i64 0, .int .i64 5, .int .i64 0, .int .i64 0, .int .i64 0, .int .i64 0, .int .i64 0, .int .i64 0, .int .i64 0, .int .i64 0, .int .i64 0, .int .i64 7, .int .i64 0] 55)) := bAlloc hB0 _
  generalize hghT : (w.alloc (.cells #[.int .i64 0, .int .i64 0, .int .i64 0, .int .i64 0, .int .i64 0, .int .i64 0, .int .i64 0, .int .i64 0, .int .i64 5, .int .i64 0, .int .i64 0, .int .i64 0, .int .i64 0, .int .i64 0, .int .i64 0, .int .i64 0, .int .i64 0, .int .i64 0, .int .i64 7, .int .i64 0] 55)) = whT at *
  have hshT : w.heap.size < whT.heap.size := by rw [← hghT]; simp
  clear hghT
  have khT := Below.refl whT.heap.size whT
  go_upto_region 3 with (first | (go_at_call 22; refine (p_any _ _).mono ?_; rintro e w' ⟨rfl, rfl⟩) | (go_at_call 23; refine (d_any _ _).mono ?_; rintro e w' ⟨rfl, rfl⟩))
  have hR : Hid (Row (((((whT.alloc (.cells #[.int .i64 0, .int .i64 0] 58)).alloc (.cells #[.int .i64 1, .int .i64 0] 58)).alloc (.cells #[.int .i64 0, .int .i64 1] 58)).alloc (.cells #[.int .i64 1, .int .i64 1] 58)).alloc (.cells #[.int .i64 0, .int .i64 0, .int .i64 1, .int .i64 0, .int .i64 0, .int .i64 1, .int .i64 1, .int .i64 1] 58)).heap.size (((((whT.alloc (.cells #[.int .i64 0, .int .i64 0] 58)).alloc (.cells #[.int .i64 1, .int .i64 0] 58)).alloc (.cells #[.int .i64 0, .int .i64 1] 58)).alloc (.cells #[.int .i64 1, .int .i64 1] 58)).alloc (.cells #[.int .i64 0, .int .i64 0, .int .i64 1, .int .i64 0, .int .i64 0, .int .i64 1, .int .i64 1, .int .i64 1] 58)) (.slice (some ⟨whT.heap.size + 1 + 1 + 1 + 1, 0, none⟩) 4 4) [(0, 0), (1, 0), (0, 1), (1, 1)]) := Lib.hid (Row.laid (by simp) rfl rfl (by decide))
  have hBhR : Below w.heap.size w (((((whT.alloc (.cells #[.int .i64 0, .int .i64 0] 58)).alloc (.cells #[.int .i64 1, .int .i64 0] 58)).alloc (.cells #[.int .i64 0, .int .i64 1] 58)).alloc (.cells #[.int .i64 1, .int .i64 1] 58)).alloc (.cells #[.int .i64 0, .int .i64 0, .int .i64 1, .int .i64 0, .int .i64 0, .int .i64 1, .int .i64 1, .int .i64 1] 58)) := by repeat (first | exact hBhT | refine bAlloc ?_ _)
  have khThR : Below whT.heap.size whT (((((whT.alloc (.cells #[.int .i64 0, .int .i64 0] 58)).alloc (.cells #[.int .i64 1, .int .i64 0] 58)).alloc (.cells #[.int .i64 0, .int .i64 1] 58)).alloc (.cells #[.int .i64 1, .int .i64 1] 58)).alloc (.cells #[.int .i64 0, .int .i64 0, .int .i64 1, .int .i64 0, .int .i64 0, .int .i64 1, .int .i64 1, .int .i64 1] 58)) := by repeat (first | exact khT | refine bAlloc ?_ _)
  generalize (((((whT.alloc (.cells #[.int .i64 0, .int .i64 0] 58)).alloc (.cells #[.int .i64 1, .int .i64 0] 58)).alloc (.cells #[.int .i64 0, .int .i64 1] 58)).alloc (.cells #[.int .i64 1, .int .i64 1] 58)).alloc (.cells #[.int .i64 0, .int .i64 0, .int .i64 1, .int .i64 0, .int .i64 0, .int .i64 1, .int .i64 1, .int .i64 1] 58)) = whR at *
  have khR := Below.refl whR.heap.size whR
  go_wp2_with (first | (go_at_call 22; refine (p_any _ _).mono ?_; rintro e w' ⟨rfl, rfl⟩) | (go_at_call 23; refine (d_any _ _).mono ?_; rintro e w' ⟨rfl, rfl⟩))
  refine Calls.mono (Profile_all _ _ [(0, 0), (1, 0), (0, 1), (1, 1)] [⟨0, 0, 0, 0, 0, 0, 0, 0, 5, 0⟩, ⟨0, 0, 0, 0, 0, 0, 0, 0, 7, 0⟩] (by decide) (nums_of (by decide +kernel)) _ (hsg.on (by repeat (first | exact hBhR | refine bAlloc ?_ _))) ?r1x1 ?r2x1) ?p1
  case r1x1 => exact (hR.out.on (by repeat (first | exact khR | refine bAlloc ?_ _)))
  case r2x1 => exact (hT.out.on (by repeat (first | exact khThR | refine bAlloc ?_ _)))
  rintro e x1 ⟨⟨v1, rfl, hv1, hn1, h01⟩, hb1⟩
  rw [show toldV [(0, 0), (1, 0), (0, 1), (1, 1)] [⟨0, 0, 0, 0, 0, 0, 0, 0, 5, 0⟩, ⟨0, 0, 0, 0, 0, 0, 0, 0, 7, 0⟩] = 0 by decide +kernel]
  have hB1 : Below w.heap.size w x1 := bStep (by repeat (first | exact hBhR | refine bAlloc ?_ _)) hb1
  have khT1 : Below whT.heap.size whT x1 := bStep (by repeat (first | exact khThR | refine bAlloc ?_ _)) hb1
  have khR1 : Below whR.heap.size whR x1 := bStep (by repeat (first | exact khR | refine bAlloc ?_ _)) hb1
  clear hb1
  rw [show profV [(0, 0), (1, 0), (0, 1), (1, 1)] [⟨0, 0, 0, 0, 0, 0, 0, 0, 5, 0⟩, ⟨0, 0, 0, 0, 0, 0, 0, 0, 7, 0⟩] = [5, 12, 7, 0] by decide +kernel] at hv1
  obtain ⟨xv1, cv1, rfl, hc1, _⟩ := hv1.slice
  simp only [List.length_cons, List.length_nil, Nat.reduceAdd, Nat.zero_add] at hc1 hv1
  have hv1 := Lib.hid hv1
  simp only [List.length_cons, List.length_nil, Nat.reduceAdd, Nat.zero_add]
  have hk1 := Below.refl x1.heap.size x1
  clear h01 hn1
  go_wp2_with (first | (go_at_call 22; refine (p_any _ _).mono ?_; rintro e w' ⟨rfl, rfl⟩) | (go_at_call 23; refine (d_any _ _).mono ?_; rintro e w' ⟨rfl, rfl⟩))
  refine Calls.mono (Peak_any _ _ [(0, 0), (1, 0), (0, 1), (1, 1)] [⟨0, 0, 0, 0, 0, 0, 0, 0, 5, 0⟩, ⟨0, 0, 0, 0, 0, 0, 0, 0, 7, 0⟩] (by decide) (nums_of (by decide +kernel)) _ (hsg.on (by repeat (first | exact hB1 | refine bAlloc ?_ _))) ?r1x2 ?r2x2) ?p2
  case r1x2 => exact (hR.out.on (by repeat (first | exact khR1 | refine bAlloc ?_ _)))
  case r2x2 => exact (hT.out.on (by repeat (first | exact khT1 | refine bAlloc ?_ _)))
  rintro e x2 ⟨rfl, hb2⟩
  rw [show peakV [(0, 0), (1, 0), (0, 1), (1, 1)] [⟨0, 0, 0, 0, 0, 0, 0, 0, 5, 0⟩, ⟨0, 0, 0, 0, 0, 0, 0, 0, 7, 0⟩] = 12 by decide +kernel, show toldV [(0, 0), (1, 0), (0, 1), (1, 1)] [⟨0, 0, 0, 0, 0, 0, 0, 0, 5, 0⟩, ⟨0, 0, 0, 0, 0, 0, 0, 0, 7, 0⟩] = 0 by decide +kernel]
  have hB2 : Below w.heap.size w x2 := bStep (by repeat (first | exact hB1 | refine bAlloc ?_ _)) hb2
  have khT2 : Below whT.heap.size whT x2 := bStep (by repeat (first | exact khT1 | refine bAlloc ?_ _)) hb2
  have khR2 : Below whR.heap.size whR x2 := bStep (by repeat (first | exact khR1 | refine bAlloc ?_ _)) hb2
  have hk12 : Below x1.heap.size x1 x2 := bStep (by repeat (first | exact hk1 | refine bAlloc ?_ _)) hb2
  clear hb2
  go_wp2_with (first | (go_at_call 22; refine (p_any _ _).mono ?_; rintro e w' ⟨rfl, rfl⟩) | (go_at_call 23; refine (d_any _ _).mono ?_; rintro e w' ⟨rfl, rfl⟩))
  refine Calls.mono (Fits_any ⟨0, 0, 11, 0, 0⟩ _ _ [(0, 0), (1, 0), (0, 1), (1, 1)] [⟨0, 0, 0, 0, 0, 0, 0, 0, 5, 0⟩, ⟨0, 0, 0, 0, 0, 0, 0, 0, 7, 0⟩] (by decide) (nums_of (by decide +kernel)) _ (hsg.on (by repeat (first | exact hB2 | refine bAlloc ?_ _))) ?r1x3 ?r2x3) ?p3
  case r1x3 => exact (hR.out.on (by repeat (first | exact khR2 | refine bAlloc ?_ _)))
  case r2x3 => exact (hT.out.on (by repeat (first | exact khT2 | refine bAlloc ?_ _)))
  rintro e x3 ⟨rfl, hb3⟩
  rw [show fitAt ⟨0, 0, 11, 0, 0⟩ [(0, 0), (1, 0), (0, 1), (1, 1)] [⟨0, 0, 0, 0, 0, 0, 0, 0, 5, 0⟩, ⟨0, 0, 0, 0, 0, 0, 0, 0, 7, 0⟩] = 1 by decide +kernel, show fitE ⟨0, 0, 11, 0, 0⟩ [(0, 0), (1, 0), (0, 1), (1, 1)] [⟨0, 0, 0, 0, 0, 0, 0, 0, 5, 0⟩, ⟨0, 0, 0, 0, 0, 0, 0, 0, 7, 0⟩] = 10 by decide +kernel]
  have hB3 : Below w.heap.size w x3 := bStep (by repeat (first | exact hB2 | refine bAlloc ?_ _)) hb3
  have khT3 : Below whT.heap.size whT x3 := bStep (by repeat (first | exact khT2 | refine bAlloc ?_ _)) hb3
  have khR3 : Below whR.heap.size whR x3 := bStep (by repeat (first | exact khR2 | refine bAlloc ?_ _)) hb3
  have hk13 : Below x1.heap.size x1 x3 := bStep (by repeat (first | exact hk12 | refine bAlloc ?_ _)) hb3
  clear hb3
  go_wp2_with (first | (go_at_call 22; refine (p_any _ _).mono ?_; rintro e w' ⟨rfl, rfl⟩) | (go_at_call 23; refine (d_any _ _).mono ?_; rintro e w' ⟨rfl, rfl⟩))
  refine Calls.mono (Fits_any ⟨0, 0, 12, 0, 0⟩ _ _ [(0, 0), (1, 0), (0, 1), (1, 1)] [⟨0, 0, 0, 0, 0, 0, 0, 0, 5, 0⟩, ⟨0, 0, 0, 0, 0, 0, 0, 0, 7, 0⟩] (by decide) (nums_of (by decide +kernel)) _ (hsg.on (by repeat (first | exact hB3 | refine bAlloc ?_ _))) ?r1x4 ?r2x4) ?p4
  case r1x4 => exact (hR.out.on (by repeat (first | exact khR3 | refine bAlloc ?_ _)))
  case r2x4 => exact (hT.out.on (by repeat (first | exact khT3 | refine bAlloc ?_ _)))
  rintro e x4 ⟨rfl, hb4⟩
  rw [show fitAt ⟨0, 0, 12, 0, 0⟩ [(0, 0), (1, 0), (0, 1), (1, 1)] [⟨0, 0, 0, 0, 0, 0, 0, 0, 5, 0⟩, ⟨0, 0, 0, 0, 0, 0, 0, 0, 7, 0⟩] = -1 by decide +kernel, show fitE ⟨0, 0, 12, 0, 0⟩ [(0, 0), (1, 0), (0, 1), (1, 1)] [⟨0, 0, 0, 0, 0, 0, 0, 0, 5, 0⟩, ⟨0, 0, 0, 0, 0, 0, 0, 0, 7, 0⟩] = 0 by decide +kernel]
  have hB4 : Below w.heap.size w x4 := bStep (by repeat (first | exact hB3 | refine bAlloc ?_ _)) hb4
  have khT4 : Below whT.heap.size whT x4 := bStep (by repeat (first | exact khT3 | refine bAlloc ?_ _)) hb4
  have khR4 : Below whR.heap.size whR x4 := bStep (by repeat (first | exact khR3 | refine bAlloc ?_ _)) hb4
  have hk14 : Below x1.heap.size x1 x4 := bStep (by repeat (first | exact hk13 | refine bAlloc ?_ _)) hb4
  clear hb4
  go_wp2_with (first | (go_at_call 22; refine (p_any _ _).mono ?_; rintro e w' ⟨rfl, rfl⟩) | (go_at_call 23; refine (d_any _ _).mono ?_; rintro e w' ⟨rfl, rfl⟩))
  refine Calls.mono (Profile_all _ _ [(2, 0), (2, 1)] [⟨0, 0, 0, 0, 0, 0, 0, 0, 5, 0⟩, ⟨0, 0, 0, 0, 0, 0, 0, 0, 7, 0⟩] (by decide) (nums_of (by decide +kernel)) _ (hsg.on (by repeat (first | exact hB4 | refine bAlloc ?_ _))) ?r1x5 ?r2x5) ?p5
  case r1x5 => exact Row.laid (by simp) rfl rfl (by decide)
  case r2x5 => exact (hT.out.on (by repeat (first | exact khT4 | refine bAlloc ?_ _)))
  rintro e x5 ⟨⟨v5, rfl, hv5, hn5, h05⟩, hb5⟩
  rw [show toldV [(2, 0), (2, 1)] [⟨0, 0, 0, 0, 0, 0, 0, 0, 5, 0⟩, ⟨0, 0, 0, 0, 0, 0, 0, 0, 7, 0⟩] = 8 by decide +kernel]
  have hB5 : Below w.heap.size w x5 := bStep (by repeat (first | exact hB4 | refine bAlloc ?_ _)) hb5
  have khT5 : Below whT.heap.size whT x5 := bStep (by repeat (first | exact khT4 | refine bAlloc ?_ _)) hb5
  have khR5 : Below whR.heap.size whR x5 := bStep (by repeat (first | exact khR4 | refine bAlloc ?_ _)) hb5
  have hk15 : Below x1.heap.size x1 x5 := bStep (by repeat (first | exact hk14 | refine bAlloc ?_ _)) hb5
  clear hb5
  obtain rfl := h05 (by rw [show toldV [(2, 0), (2, 1)] [⟨0, 0, 0, 0, 0, 0, 0, 0, 5, 0⟩, ⟨0, 0, 0, 0, 0, 0, 0, 0, 7, 0⟩] = 8 by decide +kernel]; decide)
  clear hv5
  clear h05 hn5
  go_wp2_with (first | (go_at_call 22; refine (p_any _ _).mono ?_; rintro e w' ⟨rfl, rfl⟩) | (go_at_call 23; refine (d_any _ _).mono ?_; rintro e w' ⟨rfl, rfl⟩))
  refine Calls.mono (ints_any _ _ [5, 12, 7, 0] [5, 12, 7, 0] (by decide) _ ?r1x6 ?r2x6) ?p6
  case r1x6 => exact (hv1.out.on (by repeat (first | exact hk15 | refine bAlloc ?_ _)))
  case r2x6 => exact Ints.laid (by simp) rfl rfl (by decide)
  rintro e x6 ⟨rfl, hb6⟩
  rw [show decide (([5, 12, 7, 0] : List Int) = [5, 12, 7, 0]) = true by decide]
  have hB6 : Below w.heap.size w x6 := bStep (by repeat (first | exact hB5 | refine bAlloc ?_ _)) hb6
  have khR6 : Below whR.heap.size whR x6 := bStep (by repeat (first | exact khR5 | refine bAlloc ?_ _)) hb6
  have hk16 : Below x1.heap.size x1 x6 := bStep (by repeat (first | exact hk15 | refine bAlloc ?_ _)) hb6
  clear hb6
  go_wp2_with (first | (go_at_call 22; refine (p_any _ _).mono ?_; rintro e w' ⟨rfl, rfl⟩) | (go_at_call 23; refine (d_any _ _).mono ?_; rintro e w' ⟨rfl, rfl⟩))
  refine Calls.mono (Open_any _ [(0, 0), (1, 0), (0, 1), (1, 1)] (by decide) (nums_of (by decide +kernel)) 3 _ ?r1x7) ?p7
  case r1x7 => exact (hR.out.on (by repeat (first | exact khR6 | refine bAlloc ?_ _)))
  rintro e x7 ⟨⟨v7, rfl, hv7, hn7⟩, hb7⟩
  rw [show Load.opAt [(0, 0), (1, 0), (0, 1), (1, 1)] 3 = [1] by decide +kernel] at hv7
  obtain ⟨xv7, cv7, rfl, hc7, _⟩ := hv7.slice
  have hB7 : Below w.heap.size w x7 := bStep (by repeat (first | exact hB6 | refine bAlloc ?_ _)) hb7
  have khR7 : Below whR.heap.size whR x7 := bStep (by repeat (first | exact khR6 | refine bAlloc ?_ _)) hb7
  clear hb7
  simp only [List.length_cons, List.length_nil, Nat.zero_add] at hc7 hv7
  have hv7 := Lib.hid hv7
  simp only [List.length_cons, List.length_nil, Nat.zero_add]
  have hk7 := Below.refl x7.heap.size x7
  go_wp2_with (first | (go_at_call 22; refine (p_any _ _).mono ?_; rintro e w' ⟨rfl, rfl⟩) | (go_at_call 23; refine (d_any _ _).mono ?_; rintro e w' ⟨rfl, rfl⟩))
  refine Calls.mono (ints_any _ _ [1] [1] (by decide) _ ?r1x8 ?r2x8) ?p8
  case r1x8 => exact (hv7.out.on (by repeat (first | exact hk7 | refine bAlloc ?_ _)))
  case r2x8 => exact Ints.laid (by simp) rfl rfl (by decide)
  rintro e x8 ⟨rfl, hb8⟩
  rw [show decide (([1] : List Int) = [1]) = true by decide]
  have hB8 : Below w.heap.size w x8 := bStep (by repeat (first | exact hB7 | refine bAlloc ?_ _)) hb8
  have hk78 : Below x7.heap.size x7 x8 := bStep (by repeat (first | exact hk7 | refine bAlloc ?_ _)) hb8
  clear hb8
  go_wp2
  go_ret
  exact ⟨rfl, hB8⟩

end Go.Proofs.YtphfjaelglafnaaDoor.Load

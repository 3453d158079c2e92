import Derived.Test.YtlbghdiebjldjaaGreatDoorPkOrderChkRef
import Derived.Test.YtlbghdiebjldjaaGreatDoorPkFeasSomeMath

namespace Go.Proofs.YtlbghdiebjldjaaGreatDoor.Load
open Go.RowKit Go.Sort Go.Proofs.YtlbghdiebjldjaaGreatDoor.Mem Go.Proofs.YtlbghdiebjldjaaGreatDoor.Route Go.Proofs.YtlbghdiebjldjaaGreatDoor.When
set_option linter.unusedVariables false
theorem refReq (q : Rq) (w : World) : Calls Tryz.prog 37 #[.agg #[.int .i64 q.fx, .int .i64 q.fy, .int .i64 q.tx, .int .i64 q.ty, .int .i64 q.pe, .int .i64 q.pl, .int .i64 q.de, .int .i64 q.dl, .int .i64 q.ld, .int .i64 q.sv]] w
 fun e w' => e = .returned (.int .i64 q.chk) ∧ Below w.heap.size w w' := Order.refCheck_any _ _ _ _ _ _ _ _ _ _ w
theorem refVeh (v : Vh) (w : World) : Calls Tryz.prog 36 #[.agg #[.int .i64 v.hx, .int .i64 v.hy, .int .i64 v.cp, .int .i64 v.st, .int .i64 v.en]] w
 fun e w' => e = .returned (.int .i64 v.chk) ∧ Below w.heap.size w w' := Order.refVehicle_any _ _ _ _ _ w
theorem any_yes {α : Type} {p : α → Bool} {l : List α} {k : Nat} {s : α} (h : l[k]? = some s) (e : p s = true) : l.any p = true := List.any_eq_true.2 ⟨s, List.mem_of_getElem? h, e⟩
theorem any_next {α : Type} {p : α → Bool} {l : List α} {k : Nat} {s : α} (h : l[k]? = some s) (h0 : (l.take k).any p = false) (e : p s = false) : (l.take (k + 1)).any p = false := by rw [takeA h, any_snoc, h0, e]; rfl
theorem any_end {α : Type} {p : α → Bool} {l : List α} {k : Nat} (h : l.length = k) (h0 : (l.take k).any p = false) : l.any p = false := by rwa [← h, List.take_length] at h0
set_option maxRecDepth 100000 in
set_option maxHeartbeats 4000000 in
theorem refTold_any (vl vt : Value) (l : List (Int × Int)) (t : List Rq) (hl : l.length ≤ 1000000) (w : World) (hL : Row w.heap.size w vl l) (hT : Rqs w.heap.size w vt t) :
 Calls Tryz.prog 158 #[vl, vt] w fun e w' => e = .returned (.int .i64 (toldV l t)) ∧ Below w.heap.size w w' := by
 have hR := Route.refCheck_any vl l hl w hL
 obtain ⟨xl, Nl, capl, rfl, hNl, hl0, hlc1, hlc2⟩ := hL.opened
 obtain ⟨xt, Nt, capt, rfl, hNt0, htc1, htc2, ht0⟩ := hT.opened
 have hNt := Lib.hid hNt0
 unfold maxLen at htc2 hlc2
 have hL' := Lib.hid hL
 have hT' := Lib.hid hT
 obtain ⟨E, hE⟩ : ∃ E, toldV l t = E := ⟨_, rfl⟩
 obtain ⟨C, hC⟩ : ∃ C, checkV l = C := ⟨_, rfl⟩
 rw [hE]
 rw [hC] at hR
 have hE' := Lib.hid hE
 have hC' := Lib.hid hC
 clear hl hL hT hNt0 ht0 hE hC
 go_enter Tryz.func158, Tryz.ntmps158
 go_wp2_with fail
 refine hR.mono ?_
 clear hR
 rintro e w1 ⟨rfl, hB1⟩
 cases hc0 : (C == 0)
 · have hc1 : (C != 0) = true := by simpa using hc0
   have hw := Lib.hid (told_route (t := t) (show checkV l ≠ 0 by rw [hC'.out]; simpa using hc0))
   go_wp2
   go_ret
   exact ⟨ret_int (by rw [← hE'.out, hw.out, hC'.out]), hB1⟩
 · have hc1 : (C != 0) = false := by simpa using hc0
   have hz : Hid (checkV l = 0) := Lib.hid (by rw [hC'.out]; simpa using hc0)
   have hpos := Lib.hid (fun s hs => (isR_iff.1 (check_isR hz.out).1 s hs).1)
   go_wp2
   go_loopw [6] (fun i wr => ∃ k : Nat, i = .int .i64 k ∧ k ≤ Nl ∧ Hid ((l.take k).any (fun s => outB t s.1) = false) ∧ Below w.heap.size w wr) (fun i _ => Nl - (intOf i).toNat)
   case atStart => exact ⟨0, rfl, Nat.zero_le _, Lib.hid (by simp), hB1⟩
   case round =>
    obtain ⟨k, rfl, hk, hno, hbw⟩ := hrel
    clear hB1
    by_cases hlt : k < Nl
    · obtain ⟨s, hs⟩ : ∃ s, l[k]? = some s := ⟨l[k]'(by rw [hNl.out]; exact hlt), List.getElem?_eq_getElem _⟩
      obtain ⟨g, o, rfl, hg, c0, c1⟩ := Row.stop (hL'.out.keep hbw (Nat.le_refl _)) hs
      have hs' := Lib.hid hs
      cases ho : decide ((Nt : Int) ≤ s.1)
      · have hnx := Lib.hid (any_next hs hno.out (show outB t s.1 = false by unfold outB; rw [hNt.out]; exact ho))
        clear hs
        go_wp2
        go_roundw
        case rel => exact ⟨k + 1, by go_num, hlt, hnx, hbw⟩
        case measure => simp [intOf]; omega
      · have hw := Lib.hid (told_out (t := t) hz.out (any_yes hs (show outB t s.1 = true by unfold outB; rw [hNt.out]; exact ho)))
        clear hs
        go_wp2
        go_ret
        exact ⟨ret_int (by rw [← hE'.out, hw.out]), hbw⟩
    · obtain rfl : k = Nl := by omega
      have hO : Hid (l.any (fun s => outB t s.1) = false) := Lib.hid (any_end hNl.out hno.out)
      clear hno
      go_wp2
      go_loopw [7] (fun i wr => ∃ k2 : Nat, i = .int .i64 k2 ∧ k2 ≤ k ∧ Hid ((l.take k2).any (fun s => badB t s.1) = false) ∧ Below w.heap.size w wr) (fun i _ => k - (intOf i).toNat)
      case atStart => exact ⟨0, rfl, Nat.zero_le _, Lib.hid (by simp), hbw⟩
      case round =>
       clear hbw
       obtain ⟨k2, rfl, hk2, hno, hbw⟩ := hrel
       by_cases hlt : k2 < k
       · obtain ⟨s, hs⟩ : ∃ s, l[k2]? = some s := ⟨l[k2]'(by rw [hNl.out]; exact hlt), List.getElem?_eq_getElem _⟩
         obtain ⟨g, o, rfl, hg, c0, c1⟩ := Row.stop (hL'.out.keep hbw (Nat.le_refl _)) hs
         have hp0 := hpos.out s (List.mem_of_getElem? hs)
         have hs' := Lib.hid hs
         have hout : outB t s.1 = false := by
          cases e : outB t s.1
          · rfl
          · have h9 := hO.out
            rw [any_yes (p := fun s => outB t s.1) hs e] at h9
            cases h9
         have hlt2 : s.1 < (Nt : Int) := by rw [← hNt.out]; simpa [outB] using hout
         obtain ⟨r, hr⟩ : ∃ r : Nat, s.1 = r := ⟨s.1.toNat, by omega⟩
         obtain ⟨q, hq⟩ : ∃ q, t[r]? = some q := ⟨t[r]'(by rw [hNt.out]; omega), List.getElem?_eq_getElem _⟩
         have hbq : Hid (badB t s.1 = decide (q.chk ≠ 0)) := Lib.hid (by unfold badB; rw [hr, Int.toNat_natCast, hq])
         obtain ⟨g2, o2, rfl, hg2, d0, d1, d2, d3, d4, d5, d6, d7, d8, d9⟩ := Rqs.at (hT'.out.keep hbw (Nat.le_refl _)) hq
         rw [hr] at c0
         have hrN : r < Nt := by omega
         clear hs hout hlt2 hq hp0 hr
         have hq4 := refReq q wr
         obtain ⟨Q, hQ⟩ : ∃ Q, q.chk = Q := ⟨_, rfl⟩
         rw [hQ] at hq4
         have hQ' := Lib.hid hQ
         clear hQ
         go_wp2_with fail
         refine hq4.mono ?_
         clear hq4
         rintro e w3 ⟨rfl, hb3⟩
         have hB3 := hbw.trans (hb3.mono hbw.size)
         clear hb3 hbw c0 c1 d0 d1 d2 d3 d4 d5 d6 d7 d8 d9
         cases hq0 : (Q == 0)
         · have hq1 : (Q != 0) = true := by simpa using hq0
           have hw := Lib.hid (told_bad (t := t) hz.out hO.out (any_yes (p := fun s => badB t s.1) hs'.out (by rw [hbq.out, hQ'.out]; simpa using hq0)))
           go_wp2
           go_ret
           exact ⟨ret_int (by rw [← hE'.out, hw.out]), hB3⟩
         · have hq1 : (Q != 0) = false := by simpa using hq0
           have hnx := Lib.hid (any_next (p := fun s => badB t s.1) hs'.out hno.out (by rw [hbq.out, hQ'.out]; simpa using hq0))
           go_wp2
           go_roundw
           case rel => exact ⟨k2 + 1, by go_num, hlt, hnx, hB3⟩
           case measure => simp [intOf]; omega
       · obtain rfl : k2 = k := by omega
         have hw := Lib.hid (told_ok (t := t) hz.out hO.out (any_end hNl.out hno.out))
         clear hno
         go_wp2
         go_ret
         exact ⟨ret_int (by rw [← hE'.out, hw.out]), hbw⟩
theorem ins_at {n : Int} : ∀ {a : List Int} {k : Nat}, k ≤ a.length → (∀ x ∈ a.take k, x < n) → (∀ x, a[k]? = some x → ¬ x < n) → ins n a = a.take k ++ n :: a.drop k
 | [], k, hk, _, _ => by simp [ins]
 | x :: a, 0, _, _, h2 => by
  have := h2 x rfl
  unfold ins
  rw [if_neg this]
  rfl
 | x :: a, k + 1, hk, h1, h2 => by
  have := h1 x (by simp)
  unfold ins
  rw [if_pos this, ins_at (a := a) (k := k) (by simpa using hk) (fun y hy => h1 y (by simp [hy])) (fun y hy => h2 y (by simpa using hy))]
  rfl
theorem dropB {B : Nat} {W : World} {x : Option Addr} {N cap k : Nat} {l : List Int} (h : Ints B W (.slice x N cap) l) (hl : l.length = N) (hk : k ≤ N) : Ints B W (.slice (if cap = k then x else x.map (·.add k)) (N - k) (cap - k)) (l.drop k) := by
 obtain ⟨x', cap', e, h1, h2, h0, h3⟩ := h
 simp only [Value.slice.injEq, List.length_map] at e
 obtain ⟨rfl, rfl, rfl⟩ := e
 simp only [List.length_map] at h1
 refine ⟨(if cap = k then x else x.map (·.add k)), cap - k, by simp, by simp; omega, by omega, fun hx => ?_, fun j r hj => ?_⟩
 · have : x = none := by
    split at hx
    · exact hx
    · simpa using hx
   have := h0 this
   simp at this
   simp [this]
 · rw [List.getElem?_map, List.getElem?_drop] at hj
   have hj2 : (l.map inV)[k + j]? = some r := by rw [List.getElem?_map]; exact hj
   obtain ⟨g, o, rfl, hg, hc⟩ := h3 _ _ hj2
   have hlt : k + j < l.length := by
    have := (List.getElem?_eq_some_iff.1 hj2).1
    simpa using this
   rw [if_neg (by omega)]
   refine ⟨g, o + k, by simp [add_at], hg, fun i u hi => ?_⟩
   have := hc i u hi
   rw [show o + (k + j) * 1 + i = o + k + j * 1 + i by omega] at this
   exact this
theorem Ints.plain {B : Nat} {W : World} {v : Value} {l : List Int} (h : Ints B W v l) : Plain v := by
 obtain ⟨x, cap, rfl, h1, h2, h0, h3⟩ := h
 cases x with
 | none =>
  have := h0 rfl
  rw [this.1, this.2]
  exact .inl rfl
 | some a => exact .inr ⟨_, _, _, rfl⟩
theorem Ints.flat {B : Nat} {W : World} {b : Addr} {N cap : Nat} {l : List Int} (h : Ints B W (.slice (some b) N cap) l) : ∀ j u, (flatI l)[j]? = some u → W.cell? (b.add j) = some u := by
 intro j u hj
 obtain ⟨i, k, r, e, hr, hu⟩ := flat_of (m := 1) (by decide) (fun r hr => by obtain ⟨s, _, rfl⟩ := List.mem_map.1 hr; rfl) j u hj
 obtain ⟨g, o, hx, hg, hc⟩ := RowB.row h hr
 cases hx
 have := hc k u hu
 rw [add_at, e, show o + (i * 1 + k) = o + i * 1 + k by omega]
 exact this
theorem flatI_one {l : List Int} : ∀ u ∈ flatI l, u.oneCell' = true := by
 intro u hu
 simp only [flatI, List.mem_flatten, List.mem_map] at hu
 obtain ⟨r, ⟨s, _, rfl⟩, hu⟩ := hu
 simp only [inV, List.mem_cons, List.not_mem_nil, or_false] at hu
 rw [hu]
 rfl
theorem flatI_append (a b : List Int) : flatI (a ++ b) = flatI a ++ flatI b := by simp [flatI]
set_option maxRecDepth 100000 in
set_option maxHeartbeats 4000000 in
theorem insert_any (n : Int) (v : Value) (a : List Int) (hl : a.length ≤ 1000000) (w : World) (h : Ints w.heap.size w v a) :
 Calls Tryz.prog 162 #[v, .int .i64 n] w fun e w' => (∃ v', e = .returned v' ∧ Ints w'.heap.size w' v' (ins n a) ∧ New w.heap.size v') ∧ Below w.heap.size w w' := by
 obtain ⟨i0, hi, hz0, hz1, hz2⟩ := info_parts info_int
 obtain ⟨x, N, cap, rfl, hN', hc1, hc2⟩ := h.opened
 unfold maxLen at hc2
 have h' := Lib.hid h
 rw [hN'.out] at hl
 clear h
 go_enter Tryz.func162, Tryz.ntmps162
 go_wp2
 go_loopw [5, 6] (fun u i wr => ∃ k : Nat, k ≤ N ∧ i = .int .i64 k ∧ Hid (∀ y ∈ a.take k, y < n) ∧ wr.ownsRow w.heap.size 3 1 u k (flatI (a.take k)) ∧ Below w.heap.size w wr)
  (fun _ i _ => N - (intOf i).toNat)
 case atStart => exact ⟨0, by omega, rfl, Lib.hid (by simp), by simpa [flatI] using World.ownsRow_nil _ _ _ _, Below.refl _ _⟩
 case round =>
  obtain ⟨k, hk, rfl, hall, hown, hbw⟩ := hrel
  have hsz := hbw.size
  obtain ⟨xu, cu, rfl, hcu1, hcu2⟩ : ∃ xu cu, u5 = .slice xu k cu ∧ cu ≤ maxLen ∧ k ≤ cu := by
   obtain ⟨_, ⟨rfl, rfl⟩ | ⟨g, c, cur, rfl, _, _, q1, q2, _⟩⟩ := hown
   · exact ⟨none, 0, rfl, Nat.zero_le _, Nat.le_refl _⟩
   · exact ⟨_, c, rfl, q2, q1⟩
  unfold maxLen at hcu1
  by_cases hlt : k < N
  · obtain ⟨s, hs⟩ : ∃ s, a[k]? = some s := ⟨a[k]'(by rw [hN'.out]; exact hlt), List.getElem?_eq_getElem _⟩
    obtain ⟨g, o, rfl, hg, c0⟩ := Ints.number (h'.out.keep hbw (Nat.le_refl _)) hs
    have hs' := Lib.hid hs
    have ht := Lib.hid (takeA hs)
    clear hs
    cases hlt2 : decide (s < n)
    · have hfin := Lib.hid (ins_at (n := n) (a := a) (k := k) (by rw [hN'.out]; exact hk) hall.out (fun x hx => by rw [hs'.out] at hx; cases hx; simpa using hlt2))
      clear hall ht
      have hD := dropB (k := k) h'.out hN'.out hk
      rw [if_neg (by omega)] at hD
      simp only [Option.map_some, add_at] at hD
      have hlD : (flatI (a.drop k)).length = (N - k) * 1 := by rw [flatI_length, List.length_drop, hN'.out]
      have tok1 : True := trivial
      have tok2 : True := trivial
      go_wp2_with (first
       | (at_builtin; have _t := tok1; refine wpList_append_own _ rfl _ _ 66 rfl w.heap.size 3 i0 (.int .i64 0) 1 8 Tryz.underlying66 hi hz0 hz1 hz2 rfl (by decide) _ _ _ rfl (hown.alloc _) ⟨wr.heap.size, 0, none⟩ 1 1 [.int .i64 n] rfl rfl (cell_one_new _ _ _) (by simp [Value.oneCell']) (by unfold maxLen; omega) (by omega) (by simp; omega) ?_; intro v7 w7 hown7 hgrow7 hnil7; clear tok1; have hB7 := (hbw.alloc hbw.size (.cells #[.int .i64 n] 3)).grown hgrow7 (by simp; omega) (fun r e => by have := owns_row hown _ e; omega); have hD7 := hD.keep hB7 (Nat.le_refl _); have hs7 := hB7.size)
       | (at_builtin; have _t := tok2; refine wpList_append_plain rfl _ _ 66 rfl w.heap.size 3 i0 (.int .i64 0) 1 8 Tryz.underlying66 hi hz0 hz1 hz2 rfl (by decide) _ _ _ rfl hown7 _ (N - k) ⟨_, _, rfl⟩ (Ints.plain hD7) (flatI (a.drop k)) rfl hlD (fun ad c e => by rw [e] at hD7; exact Ints.flat hD7) flatI_one (by unfold maxLen; omega) (by omega) hs7 ?_; intro v8 w8 hown8 hgrow8; clear tok2))
      have hB8 := hB7.grown hgrow8 hs7 (fun r e => by have := owns_row hown7 _ e; omega)
      have hr : Ints w8.heap.size w8 v8 (ins n a) := by
       refine Ints.of_owns (base := w.heap.size) (e := 3) (n := k + 1 + (N - k)) ?_ (by rw [ins_length, hN'.out]; omega) (Nat.le_refl _)
       rw [hfin.out, show a.take k ++ n :: a.drop k = a.take k ++ [n] ++ a.drop k by simp, flatI_append, flatI_snoc]
       exact hown8
      have hr' := Lib.hid hr
      have hnw := Lib.hid (show New w.heap.size v8 from fun r e => owns_row hown8 r e)
      clear hr hown8
      go_ret
      exact ⟨⟨_, rfl, hr'.out, hnw.out⟩, hB8⟩
    · have hall2 : Hid (∀ y ∈ a.take (k + 1), y < n) := Lib.hid (fun y hy => by
       rw [ht.out] at hy
       rcases List.mem_append.1 hy with hy | hy
       · exact hall.out y hy
       · obtain rfl := List.mem_singleton.1 hy
         simpa using hlt2)
      clear hall
      go_wp2_with (at_builtin; refine wpList_append_own _ rfl _ _ 66 rfl w.heap.size 3 i0 (.int .i64 0) 1 8 Tryz.underlying66 hi hz0 hz1 hz2 rfl (by decide) _ _ _ rfl (hown.alloc _) ⟨wr.heap.size, 0, none⟩ 1 1 [.int .i64 s] rfl rfl (cell_one_new _ _ _) (by simp [Value.oneCell']) (by unfold maxLen; omega) (by omega) (by simp; omega) ?_; intro v7 w7 hown7 hgrow7 hnil7)
      have hB7 := (hbw.alloc hbw.size (.cells #[.int .i64 s] 3)).grown hgrow7 (by simp; omega) (fun r e => by have := owns_row hown _ e; omega)
      go_roundw
      case rel => exact ⟨k + 1, by omega, by go_num, hall2, by rw [ht.out, flatI_snoc]; exact hown7, hB7⟩
      case measure => simp [intOf]; omega
  · have hge : N ≤ k := by omega
    have hfin := Lib.hid (ins_at (n := n) (a := a) (k := k) (by rw [hN'.out]; exact hk) hall.out (fun x hx => by have := (List.getElem?_eq_some_iff.1 hx).1; rw [hN'.out] at this; omega))
    clear hall
    have hD := dropB (k := k) h'.out hN'.out hk
    by_cases hcc : cap = k
    · rw [if_pos hcc, show N - k = 0 by omega, show cap - k = 0 by omega] at hD
      have hlD : (flatI (a.drop k)).length = 0 * 1 := by rw [flatI_length, List.length_drop, hN'.out]; omega
      have tok1 : True := trivial
      have tok2 : True := trivial
      go_wp2_with (first
       | (at_builtin; have _t := tok1; refine wpList_append_own _ rfl _ _ 66 rfl w.heap.size 3 i0 (.int .i64 0) 1 8 Tryz.underlying66 hi hz0 hz1 hz2 rfl (by decide) _ _ _ rfl (hown.alloc _) ⟨wr.heap.size, 0, none⟩ 1 1 [.int .i64 n] rfl rfl (cell_one_new _ _ _) (by simp [Value.oneCell']) (by unfold maxLen; omega) (by omega) (by simp; omega) ?_; intro v7 w7 hown7 hgrow7 hnil7; clear tok1; have hB7 := (hbw.alloc hbw.size (.cells #[.int .i64 n] 3)).grown hgrow7 (by simp; omega) (fun r e => by have := owns_row hown _ e; omega); have hD7 := hD.keep hB7 (Nat.le_refl _); have hs7 := hB7.size)
       | (at_builtin; have _t := tok2; refine wpList_append_plain rfl _ _ 66 rfl w.heap.size 3 i0 (.int .i64 0) 1 8 Tryz.underlying66 hi hz0 hz1 hz2 rfl (by decide) _ _ _ rfl hown7 _ 0 ⟨_, _, rfl⟩ (Ints.plain hD7) (flatI (a.drop k)) rfl hlD (fun ad c e => by rw [e] at hD7; exact Ints.flat hD7) flatI_one (by unfold maxLen; omega) (by omega) hs7 ?_; intro v8 w8 hown8 hgrow8; clear tok2))
      have hB8 := hB7.grown hgrow8 hs7 (fun r e => by have := owns_row hown7 _ e; omega)
      have hr : Ints w8.heap.size w8 v8 (ins n a) := by
       refine Ints.of_owns (base := w.heap.size) (e := 3) (n := k + 1 + 0) ?_ (by rw [ins_length, hN'.out]; omega) (Nat.le_refl _)
       rw [hfin.out, show a.take k ++ n :: a.drop k = a.take k ++ [n] ++ a.drop k by simp, flatI_append, flatI_snoc]
       exact hown8
      have hr' := Lib.hid hr
      have hnw := Lib.hid (show New w.heap.size v8 from fun r e => owns_row hown8 r e)
      clear hr hown8
      go_ret
      exact ⟨⟨_, rfl, hr'.out, hnw.out⟩, hB8⟩
    · rw [if_neg hcc, show N - k = 0 by omega] at hD
      have hlD : (flatI (a.drop k)).length = 0 * 1 := by rw [flatI_length, List.length_drop, hN'.out]; omega
      have tok1 : True := trivial
      have tok2 : True := trivial
      go_wp2_with (first
       | (at_builtin; have _t := tok1; refine wpList_append_own _ rfl _ _ 66 rfl w.heap.size 3 i0 (.int .i64 0) 1 8 Tryz.underlying66 hi hz0 hz1 hz2 rfl (by decide) _ _ _ rfl (hown.alloc _) ⟨wr.heap.size, 0, none⟩ 1 1 [.int .i64 n] rfl rfl (cell_one_new _ _ _) (by simp [Value.oneCell']) (by unfold maxLen; omega) (by omega) (by simp; omega) ?_; intro v7 w7 hown7 hgrow7 hnil7; clear tok1; have hB7 := (hbw.alloc hbw.size (.cells #[.int .i64 n] 3)).grown hgrow7 (by simp; omega) (fun r e => by have := owns_row hown _ e; omega); have hD7 := hD.keep hB7 (Nat.le_refl _); have hs7 := hB7.size)
       | (at_builtin; have _t := tok2; refine wpList_append_plain rfl _ _ 66 rfl w.heap.size 3 i0 (.int .i64 0) 1 8 Tryz.underlying66 hi hz0 hz1 hz2 rfl (by decide) _ _ _ rfl hown7 _ 0 ⟨_, _, rfl⟩ (Ints.plain hD7) (flatI (a.drop k)) rfl hlD (fun ad c e => by rw [e] at hD7; exact Ints.flat hD7) flatI_one (by unfold maxLen; omega) (by omega) hs7 ?_; intro v8 w8 hown8 hgrow8; clear tok2))
      have hB8 := hB7.grown hgrow8 hs7 (fun r e => by have := owns_row hown7 _ e; omega)
      have hr : Ints w8.heap.size w8 v8 (ins n a) := by
       refine Ints.of_owns (base := w.heap.size) (e := 3) (n := k + 1 + 0) ?_ (by rw [ins_length, hN'.out]; omega) (Nat.le_refl _)
       rw [hfin.out, show a.take k ++ n :: a.drop k = a.take k ++ [n] ++ a.drop k by simp, flatI_append, flatI_snoc]
       exact hown8
      have hr' := Lib.hid hr
      have hnw := Lib.hid (show New w.heap.size v8 from fun r e => owns_row hown8 r e)
      clear hr hown8
      go_ret
      exact ⟨⟨_, rfl, hr'.out, hnw.out⟩, hB8⟩
def bi (b : Bool) : Int := if b then 1 else 0
theorem bi_t : bi true = 1 := rfl
theorem bi_f : bi false = 0 := rfl
def fsB (l : List (Int × Int)) (r : Int) (k j : Nat) : Bool := noR r (l.take (min k j))
theorem fs_other {l : List (Int × Int)} {r : Int} {k j : Nat} {s : Int × Int} (h : l[j]? = some s) (e : (s.1 == r) = false) : fsB l r k (j + 1) = fsB l r k j := by
 unfold fsB
 rcases Nat.lt_or_ge j k with hlt | hge
 · rw [Nat.min_eq_right (by omega), Nat.min_eq_right (by omega), Load.take_get h, noR_snoc]
   have : s.1 ≠ r := by simpa using e
   simp [this]
 · rw [Nat.min_eq_left (by omega), Nat.min_eq_left (by omega)]
theorem fs_same {l : List (Int × Int)} {r : Int} {k j : Nat} {s : Int × Int} (h : l[j]? = some s) (e : (s.1 == r) = true) : fsB l r k (j + 1) = (fsB l r k j && decide ((k : Int) ≤ (j : Int))) := by
 unfold fsB
 rcases Nat.lt_or_ge j k with hlt | hge
 · rw [Nat.min_eq_right (by omega), Nat.min_eq_right (by omega), Load.take_get h, noR_snoc]
   have h1 : s.1 = r := by simpa using e
   rw [decide_eq_false (show ¬ ((k : Int) ≤ (j : Int)) by omega)]
   simp [h1]
 · rw [Nat.min_eq_left (by omega), Nat.min_eq_left (by omega), decide_eq_true (show (k : Int) ≤ (j : Int) by omega), Bool.and_true]
theorem pk_other {l : List (Int × Int)} {r : Int} {j : Nat} {s : Int × Int} (h : l[j]? = some s) (e : (s.1 == r) = false) : pkB (l.take (j + 1)) r = pkB (l.take j) r ∧ dpB (l.take (j + 1)) r = dpB (l.take j) r := by
 have : s.1 ≠ r := by simpa using e
 rw [Load.take_get h, pkB_snoc, dpB_snoc]
 simp [this]
theorem pk_pick {l : List (Int × Int)} {r : Int} {j : Nat} {s : Int × Int} (h : l[j]? = some s) (e : (s.1 == r) = true) (e2 : (s.2 == 0) = true) : pkB (l.take (j + 1)) r = true ∧ dpB (l.take (j + 1)) r = false := by
 have h1 : s.1 = r := by simpa using e
 have h2 : s.2 = 0 := by simpa using e2
 rw [Load.take_get h, pkB_snoc, dpB_snoc]
 simp [h1, h2]
theorem pk_drop {l : List (Int × Int)} {r : Int} {j : Nat} {s : Int × Int} (h : l[j]? = some s) (e : (s.1 == r) = true) (e2 : (s.2 == 1) = true) : pkB (l.take (j + 1)) r = pkB (l.take j) r ∧ dpB (l.take (j + 1)) r = true := by
 have h1 : s.1 = r := by simpa using e
 have h2 : s.2 = 1 := by simpa using e2
 rw [Load.take_get h, pkB_snoc, dpB_snoc]
 simp [h1, h2]
theorem pk_odd {l : List (Int × Int)} {r : Int} {j : Nat} {s : Int × Int} (h : l[j]? = some s) (e2 : (s.2 == 0) = false) (e3 : (s.2 == 1) = false) : pkB (l.take (j + 1)) r = pkB (l.take j) r ∧ dpB (l.take (j + 1)) r = dpB (l.take j) r := by
 have h1 : s.2 ≠ 0 := by simpa using e2
 have h2 : s.2 ≠ 1 := by simpa using e3
 rw [Load.take_get h, pkB_snoc, dpB_snoc]
 simp [h1, h2]
theorem fs_end {l : List (Int × Int)} {r : Int} {k : Nat} {K : Nat} (hk : k ≤ K) : fsB l r k K = noR r (l.take k) := by unfold fsB; rw [Nat.min_eq_left hk]
theorem take_at {α : Type} {l : List α} {K j : Nat} (h : j < K) : (l.take K)[j]? = l[j]? := List.getElem?_take_of_lt h
set_option maxRecDepth 100000 in
set_option maxHeartbeats 4000000 in
theorem refOpen_any (v : Value) (l : List (Int × Int)) (hl : l.length ≤ 1000000) (k0 : Int) (w : World) (h : Row w.heap.size w v l) :
 Calls Tryz.prog 159 #[v, .int .i64 k0] w fun e w' => (∃ v', e = .returned v' ∧ Ints w'.heap.size w' v' (opAt l k0)) ∧ Below w.heap.size w w' := by
 obtain ⟨x, N, cap, rfl, hN', h0', hc1, hc2⟩ := h.opened
 unfold maxLen at hc2
 obtain ⟨K, hK⟩ : ∃ K, kN l k0 = K := ⟨_, rfl⟩
 have hK1 : max 0 (min k0 (N : Int)) = (K : Int) := by rw [← hK]; unfold kN; rw [hN'.out]; omega
 have hKN : K ≤ N := by omega
 obtain ⟨L, hL⟩ : ∃ L, l.take K = L := ⟨_, rfl⟩
 have hLK : Hid (L.length = K) := Lib.hid (by rw [← hL, List.length_take, hN'.out]; omega)
 have hLl : Hid (∀ j, j < K → L[j]? = l[j]?) := Lib.hid (fun j hj => by rw [← hL]; exact take_at hj)
 have hfin : Hid (opT L K = opAt l k0) := Lib.hid (by unfold opAt opL; rw [hK, hL, hLK.out])
 have hlen := Lib.hid (fun k (hk : k ≤ K) => (opT_tells L k (by rw [hLK.out]; exact hk)).2.2)
 have h' := Lib.hid h
 rw [hN'.out] at hl
 clear h hK hL
 go_enter Tryz.func159, Tryz.ntmps159
 go_wp2
 go_loopw [5, 6] (fun u i wr => ∃ k : Nat, k ≤ K ∧ i = .int .i64 k ∧ Hid (Ints wr.heap.size wr u (opT L k)) ∧ Below w.heap.size w wr)
  (fun _ i _ => K - (intOf i).toNat)
 case atStart => exact ⟨0, by omega, rfl, Lib.hid (RowB.nil _ _ _), Below.refl _ _⟩
 case round =>
  obtain ⟨k, hk, rfl, hout, hbw⟩ := hrel
  by_cases hlt : k < K
  · obtain ⟨s, hs⟩ : ∃ s, l[k]? = some s := ⟨l[k]'(by rw [hN'.out]; omega), List.getElem?_eq_getElem _⟩
    obtain ⟨g, o, rfl, hg, c0, c1⟩ := Row.stop (h'.out.keep hbw (Nat.le_refl _)) hs
    have hsL : Hid (L[k]? = some s) := Lib.hid ((hLl.out k hlt).trans hs)
    obtain ⟨r, hr⟩ : ∃ r, s.1 = r := ⟨_, rfl⟩
    rw [hr] at c0
    have hr' := Lib.hid hr
    obtain ⟨xu, n, cu, rfl, hn1, _, _⟩ := hout.out.opened
    have hno : Hid (n ≤ K) := Lib.hid (by rw [← hn1.out]; have := hlen.out k hk; omega)
    clear hs hr hn1
    go_wp2
    go_loopw [8, 9, 10, 11] (fun a b c i wq => ∃ j : Nat, j ≤ K ∧ i = .int .i64 j ∧ a = .int .i64 (bi (pkB (L.take j) r)) ∧ b = .int .i64 (bi (dpB (L.take j) r)) ∧ c = .bool (fsB L r k j) ∧ wq = wr)
     (fun _ _ _ i _ => K - (intOf i).toNat)
    case atStart => exact ⟨0, by omega, rfl, rfl, rfl, by simp [fsB, noR], rfl⟩
    case round =>
     obtain ⟨j, hj, rfl, rfl, rfl, rfl, rfl⟩ := hrel
     by_cases hlt2 : j < K
     · obtain ⟨z, hz⟩ : ∃ z, l[j]? = some z := ⟨l[j]'(by rw [hN'.out]; omega), List.getElem?_eq_getElem _⟩
       obtain ⟨g2, o2, eg, _, d0, d1⟩ := Row.stop (h'.out.keep hbw (Nat.le_refl _)) hz
       simp only [Option.some.injEq, Addr.mk.injEq] at eg
       obtain ⟨rfl, rfl, _⟩ := eg
       have hzL : Hid (L[j]? = some z) := Lib.hid ((hLl.out j hlt2).trans hz)
       obtain ⟨z1, z2⟩ := z
       simp only at d0 d1
       clear hz
       cases e1 : (z1 == r)
       · have e2 : (z1 != r) = true := by rw [bne, e1]; rfl
         have hn := Lib.hid (pk_other hzL.out e1)
         have hf := Lib.hid (fs_other (k := k) hzL.out e1)
         go_wp2
         go_roundw
         case rel => exact ⟨j + 1, by omega, by go_num, by rw [hn.out.1], by rw [hn.out.2], by rw [hf.out], trivial⟩
         case measure => simp [intOf]; omega
       · have e2 : (z1 != r) = false := by rw [bne, e1]; rfl
         have hf := Lib.hid (fs_same (k := k) hzL.out e1)
         obtain ⟨P, hP⟩ : ∃ P, pkB (L.take j) r = P := ⟨_, rfl⟩
         obtain ⟨D, hD⟩ : ∃ D, dpB (L.take j) r = D := ⟨_, rfl⟩
         obtain ⟨F, hF⟩ : ∃ F, fsB L r k j = F := ⟨_, rfl⟩
         rw [hF] at hf
         rw [hP, hD, hF]
         have hP' := Lib.hid hP
         have hD' := Lib.hid hD
         clear hP hD hF
         cases e3 : (z2 == 0)
         · cases e4 : (z2 == 1)
           · have hn := Lib.hid (pk_odd (r := r) hzL.out e3 e4)
             cases F
             · go_wp2
               go_roundw
               case rel => exact ⟨j + 1, by omega, by go_num, by rw [hn.out.1, hP'.out], by rw [hn.out.2, hD'.out], by rw [hf.out]; rfl, trivial⟩
               case measure => simp [intOf]; omega
             · go_wp2
               go_roundw
               case rel => exact ⟨j + 1, by omega, by go_num, by rw [hn.out.1, hP'.out], by rw [hn.out.2, hD'.out], by rw [hf.out, Bool.true_and]; simp, trivial⟩
               case measure => simp [intOf]; omega
           · have hn := Lib.hid (pk_drop hzL.out e1 e4)
             cases F
             · go_wp2
               go_roundw
               case rel => exact ⟨j + 1, by omega, by go_num, by rw [hn.out.1, hP'.out], by rw [hn.out.2]; rfl, by rw [hf.out]; rfl, trivial⟩
               case measure => simp [intOf]; omega
             · go_wp2
               go_roundw
               case rel => exact ⟨j + 1, by omega, by go_num, by rw [hn.out.1, hP'.out], by rw [hn.out.2]; rfl, by rw [hf.out, Bool.true_and]; simp, trivial⟩
               case measure => simp [intOf]; omega
         · have hn := Lib.hid (pk_pick hzL.out e1 e3)
           have e4 : (z2 == 1) = false := by
            have : z2 = 0 := by simpa using e3
            simp [this]
           cases F
           · go_wp2
             go_roundw
             case rel => exact ⟨j + 1, by omega, by go_num, by rw [hn.out.1]; rfl, by rw [hn.out.2]; rfl, by rw [hf.out]; rfl, trivial⟩
             case measure => simp [intOf]; omega
           · go_wp2
             go_roundw
             case rel => exact ⟨j + 1, by omega, by go_num, by rw [hn.out.1]; rfl, by rw [hn.out.2]; rfl, by rw [hf.out, Bool.true_and]; simp, trivial⟩
             case measure => simp [intOf]; omega
     · obtain rfl : j = K := by omega
       have hcond : Hid ((noR s.1 (L.take k) && opB L s.1) = (fsB L r k j && (pkB (L.take j) r && !dpB (L.take j) r))) := Lib.hid (by
        rw [fs_end hk, opB_pd, hr'.out, show L.take j = L by rw [← hLK.out, List.take_length]])
       obtain ⟨P, hP⟩ : ∃ P, pkB (L.take j) r = P := ⟨_, rfl⟩
       obtain ⟨D, hD⟩ : ∃ D, dpB (L.take j) r = D := ⟨_, rfl⟩
       obtain ⟨F, hF⟩ : ∃ F, fsB L r k j = F := ⟨_, rfl⟩
       rw [hP, hD, hF] at hcond
       rw [hP, hD, hF]
       clear hP hD hF
       have skip : Hid ((F && (P && !D)) = false → opT L (k + 1) = opT L k) := Lib.hid (fun e => opT_no hsL.out (hcond.out.trans e))
       have take : Hid ((F && (P && !D)) = true → opT L (k + 1) = ins r (opT L k)) := Lib.hid (fun e => by rw [opT_yes hsL.out (hcond.out.trans e), hr'.out])
       clear hcond
       cases F
       · have hn := Lib.hid (skip.out rfl)
         go_wp2
         go_roundw
         case rel => exact ⟨k + 1, by omega, by go_num, by rw [hn.out]; exact hout, hbw⟩
         case measure => simp [intOf]; omega
       · cases P
         · have hn := Lib.hid (skip.out rfl)
           simp only [bi_f]
           go_wp2
           go_roundw
           case rel => exact ⟨k + 1, by omega, by go_num, by rw [hn.out]; exact hout, hbw⟩
           case measure => simp [intOf]; omega
         · cases D
           · have hn := Lib.hid (take.out rfl)
             have hins := insert_any r _ (opT L k) (by have := hlen.out k hk; omega) wr hout.out
             simp only [bi_f, bi_t]
             go_wp2_with fail
             refine hins.mono ?_
             clear hins
             rintro e w3 ⟨⟨v3, rfl, hv3, _⟩, hb3⟩
             have hv3' := Lib.hid hv3
             have hB3 := hbw.trans (hb3.mono hbw.size)
             obtain ⟨y3, n3, c3, rfl, _, _, _⟩ := hv3.opened
             clear hv3 hb3
             go_wp2
             go_roundw
             case rel => exact ⟨k + 1, by omega, by go_num, by rw [hn.out]; exact hv3', hB3⟩
             case measure => simp [intOf]; omega
           · have hn := Lib.hid (skip.out rfl)
             simp only [bi_t]
             go_wp2
             go_roundw
             case rel => exact ⟨k + 1, by omega, by go_num, by rw [hn.out]; exact hout, hbw⟩
             case measure => simp [intOf]; omega
  · obtain rfl : k = K := by omega
    obtain ⟨xu, n, cu, rfl, _, _, _⟩ := hout.out.opened
    go_wp2
    go_ret
    exact ⟨⟨_, rfl, by rw [← hfin.out]; exact hout.out⟩, hbw⟩
end Go.Proofs.YtlbghdiebjldjaaGreatDoor.Load

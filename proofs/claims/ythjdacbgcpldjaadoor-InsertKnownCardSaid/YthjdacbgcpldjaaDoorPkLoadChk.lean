import Derived.Test.YthjdacbgcpldjaaDoorPkUp
import Derived.Test.YthjdacbgcpldjaaDoorPkPlaceDist
import Derived.Test.YthjdacbgcpldjaaDoorPkRouteChk
import Derived.Test.YthjdacbgcpldjaaDoorPkOrderChk

/-
  The contracts of package load's check, of what it asks by closures, and of the document's Told.
-/
namespace Go.Proofs.YthjdacbgcpldjaaDoor.Load
open Go.RowKit Go.Sort Go.Proofs.YthjdacbgcpldjaaDoor.Mem Go.Proofs.YthjdacbgcpldjaaDoor.Route Go.Proofs.YthjdacbgcpldjaaDoor.When
set_option linter.unusedVariables false

theorem any_snoc {α : Type} (p : α → Bool) (l : List α) (x : α) : (l ++ [x]).any p = (l.any p || p x) := by simp
theorem takeA {α : Type} {l : List α} {k : Nat} {s : α} (h : l[k]? = some s) : l.take (k + 1) = l.take k ++ [s] := by rw [List.take_add_one, h]; rfl

set_option maxRecDepth 100000 in
set_option maxHeartbeats 2000000 in
theorem IndexFunc_any (n : Nat) (c : Value) (p : Int → Bool) (v : Value) (a : List Int) (hl : a.length ≤ 1000000) (w : World) (h : Ints w.heap.size w v a) (hin : ∀ args w, (callFunc n args).run Tryd.prog w = .ok (.enter n args) w)
    (hp : ∀ x ∈ a, ∀ w1, Below w.heap.size w w1 → Calls Tryd.prog n #[.int .i64 x, c] w1 fun e w' => e = .returned (.bool (p x)) ∧ Below w1.heap.size w1 w') :
    Calls Tryd.prog 102 #[v, .func (.func n) #[] #[c]] w fun e w' => (∃ i : Int, e = .returned (.int .i64 i) ∧ decide (0 ≤ i) = a.any p) ∧ Below w.heap.size w w' := by
  obtain ⟨x, N, cap, rfl, hN', hc1, hc2⟩ := h.opened
  have h' := Lib.hid h
  have hp' := Lib.hid hp
  rw [hN'.out] at hl
  clear h hp
  go_enter Tryd.func102, Tryd.ntmps102
  go_wp2
  go_loopw [8] (fun i wr => ∃ k : Nat, k ≤ N ∧ i = .int .i64 k ∧ Hid ((a.take k).any p = false) ∧ Below w.heap.size w wr)
    (fun i _ => N - (intOf i).toNat)
  case atStart => exact ⟨0, by omega, rfl, Lib.hid (by simp), Below.refl _ _⟩
  case round =>
    obtain ⟨k, hk, rfl, hno, hbw⟩ := hrel
    by_cases hlt : k < N
    · obtain ⟨s, hs⟩ : ∃ s, a[k]? = some s := ⟨a[k]'(by rw [hN'.out]; exact hlt), List.getElem?_eq_getElem _⟩
      obtain ⟨g, o, rfl, hg, e1⟩ := Ints.number (h'.out.keep hbw (Nat.le_refl _)) hs
      have hcall := hp'.out s (List.mem_of_getElem? hs) _ hbw
      have hyes := Lib.hid (fun e : p s = true => (List.any_eq_true.2 ⟨s, List.mem_of_getElem? hs, e⟩ : a.any p = true))
      have hnot := Lib.hid (fun e : p s = false => (by rw [takeA hs, any_snoc, hno.out, e]; rfl : (a.take (k + 1)).any p = false))
      clear hs hno
      go_wp2_with fail
      refine hcall.mono ?_
      clear hcall e1
      rintro e w2 ⟨rfl, hb2⟩
      have hB2 := hbw.trans (hb2.mono hbw.size)
      clear hb2 hbw
      cases h1 : p s
      · have hn2 := Lib.hid (hnot.out h1)
        clear hyes hnot h1
        go_wp2
        go_roundw
        case rel => exact ⟨k + 1, by omega, by go_num, hn2, hB2⟩
        case measure => simp [intOf]; omega
      · have hn2 := Lib.hid (hyes.out h1)
        clear hyes hnot h1
        go_wp2
        go_ret
        exact ⟨⟨_, rfl, by rw [hn2.out]; simp⟩, hB2⟩
    · obtain rfl : k = N := by omega
      have he : a.take k = a := by rw [← hN'.out, List.take_length]
      rw [he] at hno
      clear he
      go_wp2
      go_ret
      exact ⟨⟨_, rfl, by rw [hno.out]; rfl⟩, hbw⟩

theorem ContainsFunc_any (n : Nat) (c : Value) (p : Int → Bool) (v : Value) (a : List Int) (hl : a.length ≤ 1000000) (w : World) (h : Ints w.heap.size w v a) (hin : ∀ args w, (callFunc n args).run Tryd.prog w = .ok (.enter n args) w)
    (hp : ∀ x ∈ a, ∀ w1, Below w.heap.size w w1 → Calls Tryd.prog n #[.int .i64 x, c] w1 fun e w' => e = .returned (.bool (p x)) ∧ Below w1.heap.size w1 w') :
    Calls Tryd.prog 83 #[v, .func (.func n) #[] #[c]] w fun e w' => e = .returned (.bool (a.any p)) ∧ Below w.heap.size w w' := by
  have hI := IndexFunc_any n c p v a hl w h hin hp
  obtain ⟨x, N, cap, rfl, hN', hc1, hc2⟩ := h.opened
  clear h hp
  go_enter Tryd.func83, Tryd.ntmps83
  go_wp2_with fail
  refine hI.mono ?_
  clear hI
  rintro e w1 ⟨⟨i, rfl, hi⟩, hb1⟩
  have hi' := Lib.hid hi
  clear hi
  go_wp2
  go_ret
  exact ⟨ret_bool hi'.out, hb1⟩

theorem out_any (c Nt ct : Nat) (xt : Option Addr) (x : Int) (w : World) (hc : w.cell? ⟨c, 0, none⟩ = some (.slice xt Nt ct)) (h1 : Nt ≤ ct) (h2 : ct ≤ maxLen) :
    Calls Tryd.prog 84 #[.int .i64 x, .pointer (some ⟨c, 0, none⟩)] w fun e w' => e = .returned (.bool (decide ((Nt : Int) ≤ x))) ∧ Below w.heap.size w w' := by
  unfold maxLen at h2
  go_enter Tryd.func84, Tryd.ntmps84
  go_wp2
  go_ret
  exact ⟨ret_bool (by simp), Below.refl _ _⟩

theorem bad_any (c Nt ct : Nat) (xt : Option Addr) (t : List Rq) (x : Int) (q : Rq) (w : World) (hc : w.cell? ⟨c, 0, none⟩ = some (.slice xt Nt ct)) (hT : Rqs w.heap.size w (.slice xt Nt ct) t) (h0 : 0 ≤ x) (hx : x < Nt) (hq : t[x.toNat]? = some q) (h1 : Nt ≤ ct) (h2 : ct ≤ maxLen) :
    Calls Tryd.prog 85 #[.int .i64 x, .pointer (some ⟨c, 0, none⟩)] w fun e w' => e = .returned (.bool (decide (q.chk ≠ 0))) ∧ Below w.heap.size w w' := by
  unfold maxLen at h2
  obtain ⟨k, rfl⟩ : ∃ k : Nat, x = k := ⟨x.toNat, by omega⟩
  simp only [Int.toNat_natCast] at hq
  obtain ⟨g, o, rfl, hg, c0, c1, c2, c3, c4, c5, c6, c7, c8, c9⟩ := Rqs.at hT hq
  have hk : k < Nt := by omega
  clear hT hq
  have hC := Order.Check_any q.fx q.fy q.tx q.ty q.pe q.pl q.de q.dl q.ld q.sv w
  obtain ⟨Q, hQ⟩ : ∃ Q, q.chk = Q := ⟨_, rfl⟩
  have hQ2 : Order.chk q.fx q.fy q.tx q.ty q.pe q.pl q.de q.dl q.ld q.sv = Q := hQ
  rw [hQ2] at hC
  rw [hQ]
  clear hQ hQ2
  go_enter Tryd.func85, Tryd.ntmps85
  go_wp2_with fail
  refine hC.mono ?_
  rintro e w1 ⟨rfl, hb1⟩
  go_wp2
  go_ret
  exact ⟨ret_bool (by by_cases h : Q = 0 <;> simp [h]), hb1⟩

theorem chk1_in (args : Array Value) (w : World) : (callFunc 84 args).run Tryd.prog w = .ok (.enter 84 args) w := by
  simp [callFunc, Tryd.func84]
  rfl
theorem chk2_in (args : Array Value) (w : World) : (callFunc 85 args).run Tryd.prog w = .ok (.enter 85 args) w := by
  simp [callFunc, Tryd.func85]
  rfl

theorem told_route {l : List (Int × Int)} {t : List Rq} (h : checkV l ≠ 0) : toldV l t = checkV l := by unfold toldV; rw [if_pos h]
theorem told_out {l : List (Int × Int)} {t : List Rq} (h : checkV l = 0) (h1 : l.any (fun s => outB t s.1) = true) : toldV l t = 8 := by unfold toldV; rw [if_neg (by omega), if_pos h1]
theorem told_bad {l : List (Int × Int)} {t : List Rq} (h : checkV l = 0) (h1 : l.any (fun s => outB t s.1) = false) (h2 : l.any (fun s => badB t s.1) = true) : toldV l t = 2 := by unfold toldV; rw [if_neg (by omega), if_neg (by rw [h1]; simp), if_pos h2]
theorem told_ok {l : List (Int × Int)} {t : List Rq} (h : checkV l = 0) (h1 : l.any (fun s => outB t s.1) = false) (h2 : l.any (fun s => badB t s.1) = false) : toldV l t = 0 := by unfold toldV; rw [if_neg (by omega), if_neg (by rw [h1]; simp), if_neg (by rw [h2]; simp)]
theorem in_of {l : List (Int × Int)} {t : List Rq} (h : checkV l = 0) (h1 : l.any (fun s => outB t s.1) = false) {r : Int} (hr : r ∈ picksL l) : 0 ≤ r ∧ r < t.length ∧ ∃ q, t[r.toNat]? = some q ∧ badB t r = decide (q.chk ≠ 0) := by
  obtain ⟨s, hs, rfl⟩ := (picks_mem (check_isR h).1).1 hr
  have h2 := (isR_iff.1 (check_isR h).1 s hs).1
  have h3 : outB t s.1 = false := by
    cases e : outB t s.1
    · rfl
    · have h9 : l.any (fun s => outB t s.1) = true := List.any_eq_true.2 ⟨s, hs, e⟩
      rw [h1] at h9
      cases h9
  simp only [outB, decide_eq_false_iff_not] at h3
  have hq : t[s.1.toNat]? = some (t[s.1.toNat]'(by omega)) := List.getElem?_eq_getElem _
  exact ⟨h2, by omega, _, hq, by unfold badB; rw [hq]⟩

set_option maxRecDepth 100000 in
set_option maxHeartbeats 2000000 in
theorem check_any (vl vt : Value) (l : List (Int × Int)) (t : List Rq) (hl : l.length ≤ 1000000) (hnum : Nums l) (w : World) (hL : Row w.heap.size w vl l) (hT : Rqs w.heap.size w vt t) :
    Calls Tryd.prog 56 #[vl, vt] w fun e w' => e = .returned (.int .i64 (toldV l t)) ∧ Below w.heap.size w w' := by
  have hb0 : Below w.heap.size w (w.alloc (.cells #[vt] 30)) := (Below.refl _ _).alloc (Nat.le_refl _) _
  have hA := At.new w 30 #[vt]
  have hR := Route.Check_any vl l hl hnum _ (hL.on hb0)
  have hRq := fun w1 (hb : Below w.heap.size w w1) => Route.Requests_any vl l hl hnum w1 (hL.on hb)
  obtain ⟨xl, Nl, capl, rfl, hNl, hl0, hlc1, hlc2⟩ := hL.opened
  obtain ⟨xt, Nt, capt, rfl, hNt0, htc1, htc2, ht0⟩ := hT.opened
  have hNt := Lib.hid hNt0
  have hT' := Lib.hid hT
  have hRq' := Lib.hid hRq
  obtain ⟨E, hE⟩ : ∃ E, toldV l t = E := ⟨_, rfl⟩
  obtain ⟨C, hC⟩ : ∃ C, checkV l = C := ⟨_, rfl⟩
  rw [hE]
  rw [hC] at hR
  have hE' := Lib.hid hE
  have hC' := Lib.hid hC
  have hl2 : (reqsL l).length ≤ 1000000 := by
    unfold reqsL
    split
    · have := picks_le l; omega
    · simp
  have hl3 := Lib.hid hl2
  clear hl hnum hL hT hNt0 ht0 hRq hE hC hl2
  go_enter Tryd.func56, Tryd.ntmps56
  go_wp2_with fail
  refine hR.mono ?_
  clear hR
  rintro e w1 ⟨rfl, hb1⟩
  have hB1 := hb0.trans (hb1.mono hb0.size)
  have hA1 := hA.keep hb1 hA.inside
  clear hb0 hb1 hA
  cases hc0 : (C == 0)
  · have hc1 : (C != 0) = true := by simpa using hc0
    have hw := Lib.hid (told_route (t := t) (show checkV l ≠ 0 by rw [hC'.out]; simpa using hc0))
    go_wp2
    go_ret
    exact ⟨ret_int (by rw [← hE'.out, hw.out, hC'.out]), hB1⟩
  · have hc1 : (C != 0) = false := by simpa using hc0
    have hz : Hid (checkV l = 0) := Lib.hid (by rw [hC'.out]; simpa using hc0)
    have hre : Hid (reqsL l = picksL l) := Lib.hid (reqs_good hz.out)
    go_wp2_with fail
    refine (hRq'.out _ hB1).mono ?_
    rintro e w2 ⟨⟨v2, rfl, hv2⟩, hb2⟩
    have hB2 := hB1.trans (hb2.mono hB1.size)
    have hA2 := hA1.keep hb2 hA1.inside
    rw [hre.out] at hv2
    have hlp := hl3.out
    rw [hre.out] at hlp
    have hany1 := Lib.hid (any_picks (check_isR hz.out).1 (outB t))
    have hany2 := Lib.hid (any_picks (check_isR hz.out).1 (badB t))
    have hin := Lib.hid (fun h1 r hr => in_of (l := l) (t := t) hz.out h1 (r := r) hr)
    have hlp' := Lib.hid hlp
    have hv2' := Lib.hid hv2
    have hk1 := ContainsFunc_any 84 (.pointer (some ⟨w.heap.size, 0, none⟩)) (outB t) v2 (picksL l) hlp w2 hv2 chk1_in (fun x hx w3 hb3 => by
      have := out_any w.heap.size Nt capt xt x w3 ((hA2.keep hb3 hA2.inside).cell 0) htc1 htc2
      unfold outB
      rw [hNt.out]
      exact this)
    clear hb2 hB1 hA1 hlp
    obtain ⟨y2, n2, p2, rfl, hn2, _, _⟩ := hv2.opened
    clear hv2 hn2
    rw [hany1.out] at hk1
    obtain ⟨O, hO⟩ : ∃ O, l.any (fun s => outB t s.1) = O := ⟨_, rfl⟩
    rw [hO] at hk1
    have hO' := Lib.hid hO
    clear hO hany1
    go_wp2_with fail
    refine hk1.mono ?_
    clear hk1
    rintro e w3 ⟨rfl, hb3⟩
    have hB3 := hB2.trans (hb3.mono hB2.size)
    have hA3 := hA2.keep hb3 hA2.inside
    have hv3 := hv2'.out.on hb3
    clear hb3 hB2 hA2
    cases hO2 : O
    · have hO3 : Hid (l.any (fun s => outB t s.1) = false) := Lib.hid (hO'.out.trans hO2)
      subst hO2
      have hk2 := ContainsFunc_any 85 (.pointer (some ⟨w.heap.size, 0, none⟩)) (badB t) _ (picksL l) hlp'.out w3 hv3 chk2_in (fun x hx w4 hb4 => by
        obtain ⟨h0, h1, q, hq, hb⟩ := hin.out hO3.out x hx
        rw [hb]
        exact bad_any w.heap.size Nt capt xt t x q w4 ((hA3.keep hb4 hA3.inside).cell 0) ((hT'.out.on hB3).on hb4) h0 (by rw [← hNt.out]; exact h1) hq htc1 htc2)
      rw [hany2.out] at hk2
      obtain ⟨B, hB⟩ : ∃ B, l.any (fun s => badB t s.1) = B := ⟨_, rfl⟩
      rw [hB] at hk2
      have hB' := Lib.hid hB
      clear hB hany2 hv3 hA3
      go_wp2_with fail
      refine hk2.mono ?_
      clear hk2
      rintro e w4 ⟨rfl, hb4⟩
      have hB4 := hB3.trans (hb4.mono hB3.size)
      cases hb2 : B
      · have hw := Lib.hid (told_ok (t := t) hz.out hO3.out (hB'.out.trans hb2))
        subst hb2
        go_wp2
        go_ret
        exact ⟨ret_int (by rw [← hE'.out, hw.out]), hB4⟩
      · have hw := Lib.hid (told_bad (t := t) hz.out hO3.out (hB'.out.trans hb2))
        subst hb2
        go_wp2
        go_ret
        exact ⟨ret_int (by rw [← hE'.out, hw.out]), hB4⟩
    · have hw := Lib.hid (told_out (t := t) hz.out (hO'.out.trans hO2))
      subst hO2
      go_wp2
      go_ret
      exact ⟨ret_int (by rw [← hE'.out, hw.out]), hB3⟩

end Go.Proofs.YthjdacbgcpldjaaDoor.Load

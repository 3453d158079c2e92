import Derived.Test.YteclpblfleakhaaDoorPkFeasServe

namespace Go.Proofs.YteclpblfleakhaaDoor.Load
open Go.RowKit Go.Sort Go.Proofs.YteclpblfleakhaaDoor.Mem Go.Proofs.YteclpblfleakhaaDoor.Route Go.Proofs.YteclpblfleakhaaDoor.When
set_option linter.unusedVariables false
theorem any_snoc {α : Type} (p : α → Bool) (l : List α) (x : α) : (l ++ [x]).any p = (l.any p || p x) := by simp
theorem takeA {α : Type} {l : List α} {k : Nat} {s : α} (h : l[k]? = some s) : l.take (k + 1) = l.take k ++ [s] := by rw [List.take_add_one, h]; rfl
set_option maxRecDepth 100000 in
set_option maxHeartbeats 2000000 in
theorem IndexFunc_any (n : Nat) (c : Value) (p : Int → Bool) (v : Value) (a : List Int) (hl : a.length ≤ 1000000) (w : World) (h : Ints w.heap.size w v a) (hin : ∀ args w, (callFunc n args).run Tryd.prog w = .ok (.enter n args) w)
 (hp : ∀ x ∈ a, ∀ w1, Below w.heap.size w w1 → Calls Tryd.prog n #[.int .i64 x, c] w1 fun e w' => e = .returned (.bool (p x)) ∧ Below w1.heap.size w1 w') :
 Calls Tryd.prog 97 #[v, .func (.func n) #[] #[c]] w fun e w' => (∃ i : Int, e = .returned (.int .i64 i) ∧ decide (0 ≤ i) = a.any p) ∧ Below w.heap.size w w' := by
 obtain ⟨x, N, cap, rfl, hN', hc1, hc2⟩ := h.opened
 have h' := Lib.hid h
 have hp' := Lib.hid hp
 rw [hN'.out] at hl
 clear h hp
 go_enter Tryd.func97, Tryd.ntmps97
 go_wp2
 go_loopw [8] (fun i wr => ∃ k : Nat, k ≤ N ∧ i = .int .i64 k ∧ Hid ((a.take k).any p = false) ∧ Below w.heap.size w wr)
  (fun i _ => N - (intOf i).toNat)
 case atStart => exact ⟨0, by omega, rfl, Lib.hid (by simp), Below.refl _ _⟩
 case round =>
  obtain ⟨k, hk, rfl, hno, hbw⟩ := hrel
  by_cases hlt : k < N
  · obtain ⟨s, hs⟩ : ∃ s, a[k]? = some s := ⟨a[k]'(by rw [hN'.out]; exact hlt), List.getElem?_eq_getElem _⟩
    obtain ⟨g, o, rfl, hg, e1⟩ := Ints.number (h'.out.keep hbw (Nat.le_refl _)) hs
    have hcall := hp'.out s (List.mem_of_getElem? hs) _ hbw
    have hyes := Lib.hid (fun e : p s = true => (List.any_eq_true.2 ⟨s, List.mem_of_getElem? hs, e⟩ : a.any p = true))
    have hnot := Lib.hid (fun e : p s = false => (by rw [takeA hs, any_snoc, hno.out, e]; rfl : (a.take (k + 1)).any p = false))
    clear hs hno
    go_wp2_with fail
    refine hcall.mono ?_
    clear hcall e1
    rintro e w2 ⟨rfl, hb2⟩
    have hB2 := hbw.trans (hb2.mono hbw.size)
    clear hb2 hbw
    cases h1 : p s
    · have hn2 := Lib.hid (hnot.out h1)
      clear hyes hnot h1
      go_wp2
      go_roundw
      case rel => exact ⟨k + 1, by omega, by go_num, hn2, hB2⟩
      case measure => simp [intOf]; omega
    · have hn2 := Lib.hid (hyes.out h1)
      clear hyes hnot h1
      go_wp2
      go_ret
      exact ⟨⟨_, rfl, by rw [hn2.out]; simp⟩, hB2⟩
  · obtain rfl : k = N := by omega
    have he : a.take k = a := by rw [← hN'.out, List.take_length]
    rw [he] at hno
    clear he
    go_wp2
    go_ret
    exact ⟨⟨_, rfl, by rw [hno.out]; rfl⟩, hbw⟩
theorem ContainsFunc_any (n : Nat) (c : Value) (p : Int → Bool) (v : Value) (a : List Int) (hl : a.length ≤ 1000000) (w : World) (h : Ints w.heap.size w v a) (hin : ∀ args w, (callFunc n args).run Tryd.prog w = .ok (.enter n args) w)
 (hp : ∀ x ∈ a, ∀ w1, Below w.heap.size w w1 → Calls Tryd.prog n #[.int .i64 x, c] w1 fun e w' => e = .returned (.bool (p x)) ∧ Below w1.heap.size w1 w') :
 Calls Tryd.prog 93 #[v, .func (.func n) #[] #[c]] w fun e w' => e = .returned (.bool (a.any p)) ∧ Below w.heap.size w w' := by
 have hI := IndexFunc_any n c p v a hl w h hin hp
 obtain ⟨x, N, cap, rfl, hN', hc1, hc2⟩ := h.opened
 clear h hp
 go_enter Tryd.func93, Tryd.ntmps93
 go_wp2_with fail
 refine hI.mono ?_
 clear hI
 rintro e w1 ⟨⟨i, rfl, hi⟩, hb1⟩
 have hi' := Lib.hid hi
 clear hi
 go_wp2
 go_ret
 exact ⟨ret_bool hi'.out, hb1⟩
theorem out_any (c Nt ct : Nat) (xt : Option Addr) (x : Int) (w : World) (hc : w.cell? ⟨c, 0, none⟩ = some (.slice xt Nt ct)) (h1 : Nt ≤ ct) (h2 : ct ≤ maxLen) :
 Calls Tryd.prog 94 #[.int .i64 x, .pointer (some ⟨c, 0, none⟩)] w fun e w' => e = .returned (.bool (decide ((Nt : Int) ≤ x))) ∧ Below w.heap.size w w' := by
 unfold maxLen at h2
 go_enter Tryd.func94, Tryd.ntmps94
 go_wp2
 go_ret
 exact ⟨ret_bool (by simp), Below.refl _ _⟩
theorem bad_any (c Nt ct : Nat) (xt : Option Addr) (t : List Rq) (x : Int) (q : Rq) (w : World) (hc : w.cell? ⟨c, 0, none⟩ = some (.slice xt Nt ct)) (hT : Rqs w.heap.size w (.slice xt Nt ct) t) (h0 : 0 ≤ x) (hx : x < Nt) (hq : t[x.toNat]? = some q) (h1 : Nt ≤ ct) (h2 : ct ≤ maxLen) :
 Calls Tryd.prog 95 #[.int .i64 x, .pointer (some ⟨c, 0, none⟩)] w fun e w' => e = .returned (.bool (decide (q.chk ≠ 0))) ∧ Below w.heap.size w w' := by
 unfold maxLen at h2
 obtain ⟨k, rfl⟩ : ∃ k : Nat, x = k := ⟨x.toNat, by omega⟩
 simp only [Int.toNat_natCast] at hq
 obtain ⟨g, o, rfl, hg, c0, c1, c2, c3, c4, c5, c6, c7, c8, c9⟩ := Rqs.at hT hq
 have hk : k < Nt := by omega
 clear hT hq
 have hC := Order.Check_any q.fx q.fy q.tx q.ty q.pe q.pl q.de q.dl q.ld q.sv w
 obtain ⟨Q, hQ⟩ : ∃ Q, q.chk = Q := ⟨_, rfl⟩
 have hQ2 : Order.chk q.fx q.fy q.tx q.ty q.pe q.pl q.de q.dl q.ld q.sv = Q := hQ
 rw [hQ2] at hC
 rw [hQ]
 clear hQ hQ2
 go_enter Tryd.func95, Tryd.ntmps95
 go_wp2_with fail
 refine hC.mono ?_
 rintro e w1 ⟨rfl, hb1⟩
 go_wp2
 go_ret
 exact ⟨ret_bool (by by_cases h : Q = 0 <;> simp [h]), hb1⟩
theorem chk1_in (args : Array Value) (w : World) : (callFunc 94 args).run Tryd.prog w = .ok (.enter 94 args) w := by
 simp [callFunc, Tryd.func94]
 rfl
theorem chk2_in (args : Array Value) (w : World) : (callFunc 95 args).run Tryd.prog w = .ok (.enter 95 args) w := by
 simp [callFunc, Tryd.func95]
 rfl
theorem told_route {l : List (Int × Int)} {t : List Rq} (h : checkV l ≠ 0) : toldV l t = checkV l := by unfold toldV; rw [if_pos h]
theorem told_out {l : List (Int × Int)} {t : List Rq} (h : checkV l = 0) (h1 : l.any (fun s => outB t s.1) = true) : toldV l t = 8 := by unfold toldV; rw [if_neg (by omega), if_pos h1]
theorem told_bad {l : List (Int × Int)} {t : List Rq} (h : checkV l = 0) (h1 : l.any (fun s => outB t s.1) = false) (h2 : l.any (fun s => badB t s.1) = true) : toldV l t = 2 := by unfold toldV; rw [if_neg (by omega), if_neg (by rw [h1]; simp), if_pos h2]
theorem told_ok {l : List (Int × Int)} {t : List Rq} (h : checkV l = 0) (h1 : l.any (fun s => outB t s.1) = false) (h2 : l.any (fun s => badB t s.1) = false) : toldV l t = 0 := by unfold toldV; rw [if_neg (by omega), if_neg (by rw [h1]; simp), if_neg (by rw [h2]; simp)]
theorem in_of {l : List (Int × Int)} {t : List Rq} (h : checkV l = 0) (h1 : l.any (fun s => outB t s.1) = false) {r : Int} (hr : r ∈ picksL l) : 0 ≤ r ∧ r < t.length ∧ ∃ q, t[r.toNat]? = some q ∧ badB t r = decide (q.chk ≠ 0) := by
 obtain ⟨s, hs, rfl⟩ := (picks_mem (check_isR h).1).1 hr
 have h2 := (isR_iff.1 (check_isR h).1 s hs).1
 have h3 : outB t s.1 = false := by
  cases e : outB t s.1
  · rfl
  · have h9 : l.any (fun s => outB t s.1) = true := List.any_eq_true.2 ⟨s, hs, e⟩
    rw [h1] at h9
    cases h9
 simp only [outB, decide_eq_false_iff_not] at h3
 have hq : t[s.1.toNat]? = some (t[s.1.toNat]'(by omega)) := List.getElem?_eq_getElem _
 exact ⟨h2, by omega, _, hq, by unfold badB; rw [hq]⟩
set_option maxRecDepth 100000 in
set_option maxHeartbeats 2000000 in
theorem check_any (vl vt : Value) (l : List (Int × Int)) (t : List Rq) (hl : l.length ≤ 1000000) (hnum : Nums l) (w : World) (hL : Row w.heap.size w vl l) (hT : Rqs w.heap.size w vt t) :
 Calls Tryd.prog 89 #[vl, vt] w fun e w' => e = .returned (.int .i64 (toldV l t)) ∧ Below w.heap.size w w' := by
 have hb0 : Below w.heap.size w (w.alloc (.cells #[vt] 30)) := (Below.refl _ _).alloc (Nat.le_refl _) _
 have hA := At.new w 30 #[vt]
 have hR := Route.Check_any vl l hl hnum _ (hL.on hb0)
 have hRq := fun w1 (hb : Below w.heap.size w w1) => Route.Requests_any vl l hl hnum w1 (hL.on hb)
 obtain ⟨xl, Nl, capl, rfl, hNl, hl0, hlc1, hlc2⟩ := hL.opened
 obtain ⟨xt, Nt, capt, rfl, hNt0, htc1, htc2, ht0⟩ := hT.opened
 have hNt := Lib.hid hNt0
 have hT' := Lib.hid hT
 have hRq' := Lib.hid hRq
 obtain ⟨E, hE⟩ : ∃ E, toldV l t = E := ⟨_, rfl⟩
 obtain ⟨C, hC⟩ : ∃ C, checkV l = C := ⟨_, rfl⟩
 rw [hE]
 rw [hC] at hR
 have hE' := Lib.hid hE
 have hC' := Lib.hid hC
 have hl2 : (reqsL l).length ≤ 1000000 := by
  unfold reqsL
  split
  · have := picks_le l; omega
  · simp
 have hl3 := Lib.hid hl2
 clear hl hnum hL hT hNt0 ht0 hRq hE hC hl2
 go_enter Tryd.func89, Tryd.ntmps89
 go_wp2_with fail
 refine hR.mono ?_
 clear hR
 rintro e w1 ⟨rfl, hb1⟩
 have hB1 := hb0.trans (hb1.mono hb0.size)
 have hA1 := hA.keep hb1 hA.inside
 clear hb0 hb1 hA
 cases hc0 : (C == 0)
 · have hc1 : (C != 0) = true := by simpa using hc0
   have hw := Lib.hid (told_route (t := t) (show checkV l ≠ 0 by rw [hC'.out]; simpa using hc0))
   go_wp2
   go_ret
   exact ⟨ret_int (by rw [← hE'.out, hw.out, hC'.out]), hB1⟩
 · have hc1 : (C != 0) = false := by simpa using hc0
   have hz : Hid (checkV l = 0) := Lib.hid (by rw [hC'.out]; simpa using hc0)
   have hre : Hid (reqsL l = picksL l) := Lib.hid (reqs_good hz.out)
   go_wp2_with fail
   refine (hRq'.out _ hB1).mono ?_
   rintro e w2 ⟨⟨v2, rfl, hv2⟩, hb2⟩
   have hB2 := hB1.trans (hb2.mono hB1.size)
   have hA2 := hA1.keep hb2 hA1.inside
   rw [hre.out] at hv2
   have hlp := hl3.out
   rw [hre.out] at hlp
   have hany1 := Lib.hid (any_picks (check_isR hz.out).1 (outB t))
   have hany2 := Lib.hid (any_picks (check_isR hz.out).1 (badB t))
   have hin := Lib.hid (fun h1 r hr => in_of (l := l) (t := t) hz.out h1 (r := r) hr)
   have hlp' := Lib.hid hlp
   have hv2' := Lib.hid hv2
   have hk1 := ContainsFunc_any 94 (.pointer (some ⟨w.heap.size, 0, none⟩)) (outB t) v2 (picksL l) hlp w2 hv2 chk1_in (fun x hx w3 hb3 => by
    have := out_any w.heap.size Nt capt xt x w3 ((hA2.keep hb3 hA2.inside).cell 0) htc1 htc2
    unfold outB
    rw [hNt.out]
    exact this)
   clear hb2 hB1 hA1 hlp
   obtain ⟨y2, n2, p2, rfl, hn2, _, _⟩ := hv2.opened
   clear hv2 hn2
   rw [hany1.out] at hk1
   obtain ⟨O, hO⟩ : ∃ O, l.any (fun s => outB t s.1) = O := ⟨_, rfl⟩
   rw [hO] at hk1
   have hO' := Lib.hid hO
   clear hO hany1
   go_wp2_with fail
   refine hk1.mono ?_
   clear hk1
   rintro e w3 ⟨rfl, hb3⟩
   have hB3 := hB2.trans (hb3.mono hB2.size)
   have hA3 := hA2.keep hb3 hA2.inside
   have hv3 := hv2'.out.on hb3
   clear hb3 hB2 hA2
   cases hO2 : O
   · have hO3 : Hid (l.any (fun s => outB t s.1) = false) := Lib.hid (hO'.out.trans hO2)
     subst hO2
     have hk2 := ContainsFunc_any 95 (.pointer (some ⟨w.heap.size, 0, none⟩)) (badB t) _ (picksL l) hlp'.out w3 hv3 chk2_in (fun x hx w4 hb4 => by
      obtain ⟨h0, h1, q, hq, hb⟩ := hin.out hO3.out x hx
      rw [hb]
      exact bad_any w.heap.size Nt capt xt t x q w4 ((hA3.keep hb4 hA3.inside).cell 0) ((hT'.out.on hB3).on hb4) h0 (by rw [← hNt.out]; exact h1) hq htc1 htc2)
     rw [hany2.out] at hk2
     obtain ⟨B, hB⟩ : ∃ B, l.any (fun s => badB t s.1) = B := ⟨_, rfl⟩
     rw [hB] at hk2
     have hB' := Lib.hid hB
     clear hB hany2 hv3 hA3
     go_wp2_with fail
     refine hk2.mono ?_
     clear hk2
     rintro e w4 ⟨rfl, hb4⟩
     have hB4 := hB3.trans (hb4.mono hB3.size)
     cases hb2 : B
     · have hw := Lib.hid (told_ok (t := t) hz.out hO3.out (hB'.out.trans hb2))
       subst hb2
       go_wp2
       go_ret
       exact ⟨ret_int (by rw [← hE'.out, hw.out]), hB4⟩
     · have hw := Lib.hid (told_bad (t := t) hz.out hO3.out (hB'.out.trans hb2))
       subst hb2
       go_wp2
       go_ret
       exact ⟨ret_int (by rw [← hE'.out, hw.out]), hB4⟩
   · have hw := Lib.hid (told_out (t := t) hz.out (hO'.out.trans hO2))
     subst hO2
     go_wp2
     go_ret
     exact ⟨ret_int (by rw [← hE'.out, hw.out]), hB3⟩
end Go.Proofs.YteclpblfleakhaaDoor.Load
namespace Go.Proofs.YteclpblfleakhaaDoor.Feas
open Go.Proofs.YteclpblfleakhaaDoor.Order Go.Proofs.YteclpblfleakhaaDoor.Place Go.Proofs.YteclpblfleakhaaDoor.Route Go.Proofs.YteclpblfleakhaaDoor.When Go.Proofs.YteclpblfleakhaaDoor.Load Go.Proofs.YteclpblfleakhaaDoor.Window
set_option linter.unusedVariables false
def profR (t : List Rq) : List (Int × Int) → List (Int × Int) → List Int
 | _, [] => []
 | pre, s :: l => acc t (pre ++ [s]) :: profR t (pre ++ [s]) l
theorem profR_range (t : List Rq) : ∀ (l pre : List (Int × Int)), profR t pre l = (List.range l.length).map fun k => acc t (pre ++ l.take (k + 1))
 | [], _ => rfl
 | s :: l, pre => by
  rw [profR, profR_range t l (pre ++ [s]), List.length_cons, List.range_succ_eq_map, List.map_cons, List.map_map]
  simp [Function.comp_def]
theorem prof_profR (t : List Rq) (l : List (Int × Int)) : prof t l = profR t [] l := by
 rw [profR_range]
 rfl
theorem fstF_ge (c : Int) : ∀ (p : List Int) (k : Nat), fstF c k p = -1 ∨ (k : Int) ≤ fstF c k p
 | [], k => .inl rfl
 | x :: p, k => by
  rw [fstF]
  split
  · exact .inr (Int.le_refl _)
  · rcases fstF_ge c p (k + 1) with h | h
    · exact .inl h
    · exact .inr (by omega)
theorem fstF_more (c : Int) : ∀ (p : List Int) (k : Nat), moreB c p = decide (fstF c k p ≠ -1)
 | [], k => rfl
 | x :: p, k => by
  rw [fstF]
  unfold moreB
  rw [List.any_cons]
  split
  · rename_i h
    rw [decide_eq_true h, Bool.true_or]
    exact (decide_eq_true (by omega)).symm
  · rename_i h
    rw [decide_eq_false h, Bool.false_or]
    exact fstF_more c p (k + 1)
theorem walk_code {v : Vh} {t : List Rq} : ∀ {l pre : List (Int × Int)} {a : Sp}, (∀ p s q, l = p ++ s :: q → stB t (pre ++ p) s = true) → (pre ++ l).length ≤ 16 →
 ((walkV v t earlyP pre a l).1 = 0 ∧ fstF v.cp pre.length (profR t pre l) = -1 ∧ earlyL a (visL t l) = some (walkV v t earlyP pre a l).2.2) ∨
 ((walkV v t earlyP pre a l).1 = 10 ∧ fstF v.cp pre.length (profR t pre l) = ((walkV v t earlyP pre a l).2.1 : Int)) ∨
 ((walkV v t earlyP pre a l).1 = 9 ∧ earlyL a (visL t l) = none ∧ (fstF v.cp pre.length (profR t pre l) = -1 ∨ ((walkV v t earlyP pre a l).2.1 : Int) < fstF v.cp pre.length (profR t pre l)))
 | [], pre, a, _, _ => .inl ⟨rfl, rfl, rfl⟩
 | s :: l, pre, a, hs, hl => by
  have h1 := hs [] s l rfl
  rw [List.append_nil] at h1
  have hl' : ((pre ++ [s]) ++ l).length ≤ 16 := by simpa using hl
  have hk : pre.length < 16 := by simp at hl; omega
  have ih := walk_code (v := v) (t := t) (l := l) (pre := pre ++ [s]) (a := goP earlyP pre.length a (visV t s)) (fun p x q e => by
   have := hs (s :: p) x q (by rw [e]; rfl)
   simpa using this) hl'
  have ev : visL t (s :: l) = visV t s :: visL t l := rfl
  have en : (pre ++ [s]).length = pre.length + 1 := by simp
  rw [en] at ih
  rw [profR, fstF, ev, earlyL]
  by_cases hb : acc t (pre ++ [s]) ≤ v.cp
  · rw [if_neg (by omega)]
    by_cases hp : arV a (visV t s) ≤ (visV t s).wl
    · have h2 : srvV v t earlyP pre a s = 0 := srv_bits.2 ⟨hk, h1, hb, decide_eq_true hp⟩
      rw [walkV_go h2, if_pos hp]
      exact ih
    · have h2 : srvV v t earlyP pre a s = 9 := by
       unfold srvV
       rw [if_neg (by omega), if_neg (by simp [h1]), if_neg (by omega), if_pos (by simpa [earlyP] using hp)]
      rw [walkV_stop (by omega), if_neg hp]
      refine .inr (.inr ⟨h2, rfl, ?_⟩)
      rcases fstF_ge v.cp (profR t (pre ++ [s]) l) (pre.length + 1) with h | h
      · exact .inl h
      · exact .inr (by dsimp only; omega)
  · rw [if_pos (by omega)]
    have h2 : srvV v t earlyP pre a s = 10 := by
     unfold srvV
     rw [if_neg (by omega), if_neg (by simp [h1]), if_pos (by omega)]
    rw [walkV_stop (by omega)]
    exact .inr (.inl ⟨h2, rfl⟩)
theorem Dr.told {v : Vh} {l : List (Int × Int)} {t : List Rq} (h : Dr v l t) : toldV l t = 0 := by
 have hc : checkV l = 0 := by
  unfold checkV
  rw [if_neg (by have := h.hn; omega), if_pos h.hl]
 refine told_ok hc ?_ ?_
 · rw [Bool.eq_false_iff]
   intro e
   obtain ⟨s, hs, e⟩ := List.any_eq_true.1 e
   have := h.hr s hs
   simp [outB] at e
   omega
 · rw [Bool.eq_false_iff]
   intro e
   obtain ⟨s, hs, e⟩ := List.any_eq_true.1 e
   have h1 := h.hr s hs
   have h2 := (isR_iff.1 h.hl s hs).1
   have hq : t[s.1.toNat]? = some (t[s.1.toNat]'(by omega)) := List.getElem?_eq_getElem _
   unfold badB at e
   rw [hq] at e
   have := h.ht _ (List.getElem_mem (h := (by omega : s.1.toNat < t.length)))
   simp [this] at e
theorem Dr.fit {v : Vh} {l : List (Int × Int)} {t : List Rq} (h : Dr v l t) : fitAt v l t = fstF v.cp 0 (profR t [] l) ∧ fitE v l t = if fstF v.cp 0 (profR t [] l) = -1 then 0 else 10 := by
 have hp : profV l t = profR t [] l := by unfold profV; rw [if_pos h.told, prof_profR]
 have hv := h.hv
 have ht := h.told
 unfold fitAt fitE fstV
 rw [if_pos hv, if_neg (by omega), if_neg (by omega), hp, fstF_more v.cp _ 0]
 refine ⟨rfl, ?_⟩
 by_cases e : fstF v.cp 0 (profR t [] l) = -1
 · rw [if_pos e, if_neg (by simpa using e)]
 · rw [if_neg e, if_pos (by simpa using e)]
theorem Dr.agree {v : Vh} {l : List (Int × Int)} {t : List Rq} (h : Dr v l t) :
 ((faultV v l t).1 = 0 ∧ When.errT v l t = 0 ∧ fitE v l t = 0) ∨
 ((faultV v l t).1 = 10 ∧ fitE v l t = 10 ∧ (faultV v l t).2.1 = 2 ∧ (faultV v l t).2.2 = fitAt v l t) ∨
 ((faultV v l t).1 = 9 ∧ When.errT v l t = 9 ∧ (fitE v l t = 0 ∨ fitE v l t = 10 ∧ (faultV v l t).2.1 = 2 ∧ (faultV v l t).2.2 < fitAt v l t)) := by
 obtain ⟨f1, f2⟩ := h.fit
 have hw := walk_code (v := v) (t := t) (l := l) (pre := []) (a := sp0 v) (fun p s q e => route_stB h.hl h.hr e) (by simpa using h.hn)
 have hb : badK t < 0 := badK_ok.2 h.ht
 have ha : acc t l = 0 := acc_last t h.hl
 have hv := h.hv
 have hlk : lookV v l t earlyP = if (walkV v t earlyP [] (sp0 v) l).1 ≠ 0 then ((walkV v t earlyP [] (sp0 v) l).1, 2, ((walkV v t earlyP [] (sp0 v) l).2.1 : Int)) else (homeE v t l (walkV v t earlyP [] (sp0 v) l).2.2, 3, (l.length : Int)) := by
  unfold lookV
  rw [if_neg (by omega), if_neg (by omega)]
 have herr := h.errT
 have hok := h.okT
 simp only [List.length_nil] at hw
 rw [f1, f2, herr]
 unfold faultV
 rcases hw with ⟨w1, w2, w3⟩ | ⟨w1, w2⟩ | ⟨w1, w2, w3⟩
 · rw [if_neg (by omega)] at hlk
   by_cases he : arV (walkV v t earlyP [] (sp0 v) l).2.2 (homeV v) ≤ v.en
   · have : (lookV v l t earlyP).1 = 0 := by
      rw [hlk]
      dsimp only [homeE]
      rw [if_neg (by omega), if_neg (by omega)]
     rw [if_pos this, if_pos (hok.2 ⟨_, w3, he⟩), if_pos w2]
     exact .inl ⟨rfl, rfl, rfl⟩
   · have h9 : homeE v t l (walkV v t earlyP [] (sp0 v) l).2.2 = 9 := by
      unfold homeE
      rw [if_neg (by omega), if_pos (by omega)]
     rw [hlk, h9, if_neg (by dsimp only; omega), if_pos w2, if_neg]
     · exact .inr (.inr ⟨rfl, rfl, .inl rfl⟩)
     · intro e
       obtain ⟨b, e1, e2⟩ := hok.1 e
       rw [w3] at e1
       cases e1
       exact he e2
 · rw [if_pos (by omega), w1] at hlk
   rw [hlk]
   exact .inr (.inl ⟨rfl, if_neg (by omega), rfl, w2.symm⟩)
 · rw [if_pos (by omega), w1] at hlk
   have hno : ¬ When.okT v l t = true := fun e => by
    obtain ⟨b, e1, _⟩ := hok.1 e
    rw [w2] at e1
    cases e1
   rw [hlk]
   refine .inr (.inr ⟨rfl, if_neg hno, ?_⟩)
   rcases w3 with w3 | w3
   · exact .inl (if_pos w3)
   · exact .inr ⟨if_neg (by omega), rfl, w3⟩
end Go.Proofs.YteclpblfleakhaaDoor.Feas
namespace Go.Proofs.YteclpblfleakhaaDoor.When
open Go.RowKit Go.Sort Go.Proofs.YteclpblfleakhaaDoor.Mem Go.Proofs.YteclpblfleakhaaDoor.Route
set_option linter.unusedVariables false
def byV (b : Int) : List Value := [.int .u8 b]
structure DraftAt (W : World) (g : Nat) (sv : Value) (bs : List Int) (a b k : Int) : Prop where
 box : At W g 24 #[sv, .int .u8 a, .int .u8 b, .int .i64 k]
 row : RowB g W sv 1 (bs.map byV)
 byte : ∀ x ∈ bs, 0 ≤ x ∧ x < 256
 na : 0 ≤ a ∧ a < 256
 nb : 0 ≤ b ∧ b < 256
theorem put_grown (w : World) (g i : Nat) (v : Value) : w.grownBy (w.setCell ⟨g, i, none⟩ v) (some g) :=
 ⟨rfl, rfl, rfl, by simp [World.setCell], fun k _ hn => Below.heap_setCell w ⟨g, i, none⟩ v k (fun e => hn (by rw [e]))⟩
theorem DraftAt.alloc {W : World} {g : Nat} {sv : Value} {bs : List Int} {a b k : Int} (h : DraftAt W g sv bs a b k) (o : Obj) : DraftAt (W.alloc o) g sv bs a b k :=
 ⟨h.box.alloc o, h.row.keep ((Below.refl g W).alloc (Nat.le_of_lt h.box.inside) o) (Nat.le_refl _), h.byte, h.na, h.nb⟩
theorem DraftAt.far {W : World} {g : Nat} {sv : Value} {bs : List Int} {a b k : Int} (h : DraftAt W g sv bs a b k) {q : Nat} (hq : g < q) (i : Nat) (v : Value) : DraftAt (W.setCell ⟨q, i, none⟩ v) g sv bs a b k :=
 ⟨h.box.far (by omega) i v, h.row.keep ((Below.refl g W).grown (put_grown W q i v) (Nat.le_of_lt h.box.inside) (fun b e => by cases e; omega)) (Nat.le_refl _), h.byte, h.na, h.nb⟩
theorem DraftAt.under {W W' : World} {g : Nat} {sv : Value} {bs : List Int} {a b k : Int} (h : DraftAt W g sv bs a b k) {row : Option Nat} (hg : W.grownBy W' row) (hr : ∀ r, row = some r → g < r) : DraftAt W' g sv bs a b k :=
 ⟨(hg.block g h.box.inside (fun e => by have := hr g e.symm; omega)).trans h.box, h.row.keep ((Below.refl g W).grown hg (Nat.le_of_lt h.box.inside) (fun b e => Nat.le_of_lt (hr b e))) (Nat.le_refl _), h.byte, h.na, h.nb⟩
theorem grown_far {w v : World} {g : Nat} (h : w.grownBy v (some g)) {q : Nat} (hq : w.heap.size ≤ q) (i : Nat) (x : Value) : w.grownBy (v.setCell ⟨q, i, none⟩ x) (some g) :=
 ⟨h.os, h.tape, h.output, by simpa using h.size, fun j hj hne => (Below.heap_setCell _ _ _ _ (fun e => by have : j = q := e; omega)).trans (h.block j hj hne)⟩
set_option maxRecDepth 100000 in
set_option maxHeartbeats 1000000 in
theorem next_any (w : World) (g : Nat) (sv : Value) (bs : List Int) (a b k n : Int) (h : DraftAt w g sv bs a b k) (hk : 0 ≤ k ∧ k < 1000000) (hn : 1 ≤ n ∧ n ≤ 1000000) :
 Calls Tryd.prog 43 #[.pointer (some ⟨g, 0, none⟩), .int .i64 n] w fun e w' =>
  (∃ r, e = .returned (.int .i64 r) ∧ 0 ≤ r ∧ r < n) ∧ DraftAt w' g sv bs a b (k + 1) ∧ w.grownBy w' (some g) := by
 obtain ⟨hB, hR, hY, hna, hnb⟩ := h
 obtain ⟨x, cap, rfl, hl, hcap, hx0, _⟩ := id hR
 simp only [List.length_map] at hl hR hB ⊢
 unfold maxLen at hcap
 have p0 := hB.cell 0
 have p4 := hB.cell 3
 simp at p0 p4
 have f4 := hB.free 3
 have hB' := hB.put 3 (.int .i64 (k + 1))
 simp at hB'
 have q0 := hB'.cell 0
 have q4 := hB'.cell 3
 simp at q0 q4
 have hBl := Lib.hid hB'
 clear hB hB' hx0
 go_enter Tryd.func43, Tryd.ntmps43
 have hn0 : (n == 0) = false := by simp; omega
 have hnn : n ≠ 0 := by omega
 have hm0 : 0 ≤ (k + 1) % n := Int.emod_nonneg _ hnn
 have hm1 : (k + 1) % n < n := Int.emod_lt_of_pos _ (by omega)
 have hbw : Below g w (w.setCell ⟨g, 3, none⟩ (.int .i64 (k + 1))) := (Below.refl g w).grown (put_grown w g 3 _) (by have := hBl.out.inside; simpa using Nat.le_of_lt this) (fun b e => by cases e; exact Nat.le_refl _)
 have hR' := hR.keep hbw (Nat.le_refl _)
 have hend := Lib.hid (And.intro (DraftAt.mk (bs := bs) hBl.out hR' hY hna hnb) (put_grown w g 3 (.int .i64 (k + 1))))
 clear hna hnb
 by_cases h0 : bs.length = 0
 · clear hbw hR hR'
   go_wp2_with fail
   go_ret
   exact ⟨⟨_, rfl, hm0, hm1⟩, hend.out.1, hend.out.2⟩
 · obtain ⟨j, hj⟩ : ∃ j : Nat, (k + 1) % (bs.length : Int) = j := ⟨((k + 1) % (bs.length : Int)).toNat, (Int.toNat_of_nonneg (Int.emod_nonneg _ (by omega))).symm⟩
   have hjl : j < bs.length := by
    have := Int.emod_lt_of_pos (k + 1) (show (0 : Int) < bs.length by omega)
    omega
   obtain ⟨q, hq⟩ : ∃ q, (k + 1) / (bs.length : Int) = q := ⟨_, rfl⟩
   have hq0 : 0 ≤ q := by rw [← hq]; exact Int.ediv_nonneg (by omega) (by omega)
   have hq1 : q ≤ k + 1 := by rw [← hq]; exact Int.ediv_le_self _ (by omega)
   have hx : bs[j]? = some (bs[j]'hjl) := List.getElem?_eq_getElem hjl
   have hy := hY _ (List.getElem_mem hjl)
   generalize bs[j]'hjl = y at hx hy
   obtain ⟨gx, ox, rfl, hgx, hcx⟩ := RowB.row hR' (j := j) (r := byV y) (by rw [List.getElem?_map, hx]; rfl)
   have d0 := hcx 0 _ rfl
   simp at d0
   have hl0 : ((bs.length : Int) == 0) = false := beq_eq_false_iff_ne.2 (by omega)
   have hs0 : 0 ≤ (y + q) % n := Int.emod_nonneg _ hnn
   have hs1 : (y + q) % n < n := Int.emod_lt_of_pos _ (by omega)
   clear hcx hR hR' hbw hY hx
   go_upto_region 4 with fail
   go_quiet (fail)
   go_wp2_with fail
   go_ret
   exact ⟨⟨_, rfl, hs0, hs1⟩, ⟨hend.out.1.box, hend.out.1.row, hend.out.1.byte, hend.out.1.na, hend.out.1.nb⟩, ⟨hend.out.2.os, hend.out.2.tape, hend.out.2.output, hend.out.2.size, hend.out.2.block⟩⟩
theorem res_dp {fn : Func} {p : Tmp} (h : fn.results = #[.cell p 45]) {tmps : Array Value} {w : World} {g : Nat} {x0 x1 : Value} (hp : tmps.getD p undef = .pointer (some ⟨g, 0, none⟩))
 (hA : At w g 45 #[x0, x1]) : (results fn tmps).run Tryd.prog w = .ok (.agg #[x0, x1]) w := by
 have hp' : tmps[p]?.getD undef = .pointer (some ⟨g, 0, none⟩) := by simpa using hp
 have c0 := hA.cell 0
 have c1 := hA.cell 1
 simp at c0 c1
 simp only [results, h]
 go_simp
theorem res_rq {fn : Func} {p : Tmp} (h : fn.results = #[.cell p 68]) {tmps : Array Value} {w : World} {g : Nat} {x0 x1 x2 x3 x4 x5 x6 x7 x8 x9 : Value} (hp : tmps.getD p undef = .pointer (some ⟨g, 0, none⟩))
 (hA : At w g 68 #[x0, x1, x2, x3, x4, x5, x6, x7, x8, x9]) : (results fn tmps).run Tryd.prog w = .ok (.agg #[x0, x1, x2, x3, x4, x5, x6, x7, x8, x9]) w := by
 have hp' : tmps[p]?.getD undef = .pointer (some ⟨g, 0, none⟩) := by simpa using hp
 have c0 := hA.cell 0
 have c1 := hA.cell 1
 have c2 := hA.cell 2
 have c3 := hA.cell 3
 have c4 := hA.cell 4
 have c5 := hA.cell 5
 have c6 := hA.cell 6
 have c7 := hA.cell 7
 have c8 := hA.cell 8
 have c9 := hA.cell 9
 simp at c0 c1 c2 c3 c4 c5 c6 c7 c8 c9
 simp only [results, h]
 go_simp
theorem res_vh {fn : Func} {p : Tmp} (h : fn.results = #[.cell p 47]) {tmps : Array Value} {w : World} {g : Nat} {x0 x1 x2 x3 x4 : Value} (hp : tmps.getD p undef = .pointer (some ⟨g, 0, none⟩))
 (hA : At w g 47 #[x0, x1, x2, x3, x4]) : (results fn tmps).run Tryd.prog w = .ok (.agg #[x0, x1, x2, x3, x4]) w := by
 have hp' : tmps[p]?.getD undef = .pointer (some ⟨g, 0, none⟩) := by simpa using hp
 have c0 := hA.cell 0
 have c1 := hA.cell 1
 have c2 := hA.cell 2
 have c3 := hA.cell 3
 have c4 := hA.cell 4
 simp at c0 c1 c2 c3 c4
 simp only [results, h]
 go_simp
set_option maxRecDepth 100000 in
set_option maxHeartbeats 1000000 in
theorem dplace_any (w : World) (g : Nat) (sv : Value) (bs : List Int) (a b k : Int) (h : DraftAt w g sv bs a b k) (hk : 0 ≤ k ∧ k < 900000) :
 Calls Tryd.prog 42 #[.pointer (some ⟨g, 0, none⟩)] w fun e w' =>
  (∃ x y, e = .returned (.agg #[.int .i64 x, .int .i64 y]) ∧ (500 ≤ x ∧ x < 520) ∧ 500 ≤ y ∧ y < 520) ∧ DraftAt w' g sv bs a b (k + 2) ∧ w.grownBy w' (some g) := by
 have hgi := h.box.inside
 have h1 := h.alloc (.cells #[.int .i64 0, .int .i64 0] 45)
 have hA := At.new w 45 #[.int .i64 0, .int .i64 0]
 have hg1 : w.grownBy (w.alloc (.cells #[.int .i64 0, .int .i64 0] 45)) (some g) := World.grownBy_alloc _ _ _
 obtain ⟨q, hq⟩ : ∃ q, q = w.heap.size := ⟨_, rfl⟩
 rw [← hq] at hA
 have hqg : g < q := by omega
 have hqw : w.heap.size ≤ q := by omega
 clear h hgi
 go_enter Tryd.func42, Tryd.ntmps42
 go_upto_region 1 with fail
 rw [← hq]
 obtain ⟨w1, hw1⟩ : ∃ w1, w.alloc (.cells #[.int .i64 0, .int .i64 0] 45) = w1 := ⟨_, rfl⟩
 rw [hw1] at h1 hA hg1 ⊢
 clear hw1 hq
 go_wp2_with fail
 refine (next_any _ g sv bs a b k 20 h1 (by omega) (by omega)).mono ?_
 rintro e w2 ⟨⟨r1, rfl, hr1, hr2⟩, h2, hg2⟩
 have hA2 : At w2 q 45 #[.int .i64 0, .int .i64 0] := (hg2.block q hA.inside (fun e => by cases e; omega)).trans hA
 go_wp2_with fail
 refine (next_any _ g sv bs a b (k + 1) 20 h2 (by omega) (by omega)).mono ?_
 rintro e w3 ⟨⟨r2, rfl, hr3, hr4⟩, h3, hg3⟩
 have hA3 : At w3 q 45 #[.int .i64 0, .int .i64 0] := (hg3.block q hA2.inside (fun e => by cases e; omega)).trans hA2
 have c0 := hA3.cell 0
 have c1 := hA3.cell 1
 simp at c0 c1
 have ff := hA3.free
 have hE := (h3.far hqg 0 (.int .i64 (500 + r1))).far hqg 1 (.int .i64 (500 + r2))
 rw [show k + 1 + 1 = k + 2 by omega] at hE
 have hG := grown_far (grown_far ((hg1.trans hg2).trans hg3) hqw 0 (.int .i64 (500 + r1))) hqw 1 (.int .i64 (500 + r2))
 have hR := put2 (y0 := .int .i64 (500 + r1)) (y1 := .int .i64 (500 + r2)) hA3
 have hEH := Lib.hid hE
 have hGH := Lib.hid hG
 have hRH := Lib.hid hR
 clear hE hG hR h1 h2 h3 hg1 hg2 hg3 hA hA2 hA3
 go_wp2
 refine bodyPost_ret (res_dp rfl rfl (by exact hRH.out)) rfl ?_
 exact ⟨⟨_, _, rfl, ⟨by omega, by omega⟩, by omega, by omega⟩, hEH.out, hGH.out⟩
end Go.Proofs.YteclpblfleakhaaDoor.When

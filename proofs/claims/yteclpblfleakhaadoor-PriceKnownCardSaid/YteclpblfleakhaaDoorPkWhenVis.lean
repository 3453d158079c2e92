import Derived.Test.YteclpblfleakhaaDoorPkWhenGo

namespace Go.Proofs.YteclpblfleakhaaDoor.When
open Go.RowKit Go.Shelf Go.Proofs.YteclpblfleakhaaDoor.Mem Go.Proofs.YteclpblfleakhaaDoor.Route Go.Proofs.YteclpblfleakhaaDoor.Up
set_option linter.unusedVariables false
attribute [local go_sem] Oper.semAt_some
def encV (y : Sp × Vi) : Array Value := #[.agg #[.int .i64 y.2.px, .int .i64 y.2.py, .int .i64 y.2.we, .int .i64 y.2.wl, .int .i64 y.2.sv]]
theorem Old.below {β : Type} {B : Nat} {J : β → World → Prop} (h : Old B J) {s : β} {A A' : World} (hs : J s A) (hb : Below A.heap.size A A') : J s A' :=
 h s A A' none hs ⟨hb.os, hb.tape, hb.output, hb.size, fun k hk _ => hb.block k hk⟩ (fun r e => by cases e)
theorem visits_any (v : Vh) (xl xt : Option Addr) (Nl Cl Nt Ct : Nat) (w : World) :
 Calls Tryd.prog 29 #[.agg #[.int .i64 v.hx, .int .i64 v.hy, .int .i64 v.cp, .int .i64 v.st, .int .i64 v.en], .slice xl Nl Cl, .slice xt Nt Ct] w fun e w' =>
  e = .returned (.func (.func 47) #[] #[.pointer (some ⟨w.heap.size + 1, 0, none⟩), .pointer (some ⟨w.heap.size + 2, 0, none⟩), .pointer (some ⟨w.heap.size, 0, none⟩)]) ∧
  ((w.alloc (.cells #[.int .i64 v.hx, .int .i64 v.hy, .int .i64 v.cp, .int .i64 v.st, .int .i64 v.en] 47)).alloc (.cells #[.slice xl Nl Cl] 48)).alloc (.cells #[.slice xt Nt Ct] 30) = w' := by
 go_enter Tryd.func29, Tryd.ntmps29
 go_wp2
 go_ret
 exact ⟨rfl, rfl⟩
structure VisAt (B0 : Nat) (bl bt bv : Nat) (vl vt : Value) (v : Vh) (l : List (Int × Int)) (t : List Rq) (A : World) : Prop where
 hl : At A bl 48 #[vl]
 ht : At A bt 30 #[vt]
 hv : At A bv 47 #[.int .i64 v.hx, .int .i64 v.hy, .int .i64 v.cp, .int .i64 v.st, .int .i64 v.en]
 row : Row B0 A vl l
 rqs : Rqs B0 A vt t
set_option maxRecDepth 100000 in
set_option maxHeartbeats 4000000 in
theorem visits_runs (v : Vh) (l : List (Int × Int)) (t : List Rq) (vl vt : Value) (bl bt bv B0 B : Nat) (hB : B0 ≤ B) (xs : List (Sp × Vi)) (hxs : xs.map (·.2) = visL t l ++ [homeV v]) (I : List (Sp × Vi) → World → Prop) (hI : ∀ p A, I p A → VisAt B0 bl bt bv vl vt v l t A) :
 Runs2 Tryd.prog 47 #[] #[.pointer (some ⟨bl, 0, none⟩), .pointer (some ⟨bt, 0, none⟩), .pointer (some ⟨bv, 0, none⟩)] encV good xs B I := by
 intro ll J W hWB h0 hJ hJI hY
 refine callsIn_of_wp Tryd.func47 rfl trivial ?_ rfl
 simp only [Tryd.ntmps47, List.size_toArray, List.length_cons, List.length_nil, Nat.reduceAdd, Nat.reduceSub, Array.replicate_succ, Array.replicate_zero, List.push_toArray, List.append_toArray, List.nil_append, List.cons_append]
 have hV0 := hI _ _ (hJI _ _ h0)
 obtain ⟨xl, Nl, capl, rfl, hNl, hl0, hlc1, hlc2⟩ := hV0.row.opened
 obtain ⟨xt, Nt, capt, rfl, hNt0, htc1, htc2, ht0⟩ := hV0.rqs.opened
 have hNt := Lib.hid hNt0
 unfold maxLen at hlc2 htc2
 have l0 := hV0.hl.cell 0
 have hbl := hV0.hl.inside
 simp at l0
 have hWs : B ≤ W.heap.size := by omega
 have hlen : Hid (xs.length = Nl + 1) := Lib.hid (by have := congrArg List.length hxs; simp [visL, hNl.out] at this; omega)
 have hxs' := Lib.hid hxs
 have hY' := Lib.hid hY
 have hI' := Lib.hid hI
 have hgetS : Hid (∀ (pre rest : List (Sp × Vi)) (y : Sp × Vi) (s : Int × Int), xs = pre ++ y :: rest → l[pre.length]? = some s → y.2 = visV t s) := Lib.hid (by
  intro pre rest y s e hs
  rw [e, List.map_append, List.map_cons] at hxs
  have h1 := congrArg (fun z => z[pre.length]?) hxs
  simp [visL] at h1
  rw [List.getElem?_append_left (by simpa using (List.getElem?_eq_some_iff.1 hs).1), List.getElem?_map, hs] at h1
  simpa using h1)
 have hgetH : Hid (∀ (pre rest : List (Sp × Vi)) (y : Sp × Vi), xs = pre ++ y :: rest → l.length = pre.length → y.2 = homeV v) := Lib.hid (by
  intro pre rest y e hs
  rw [e, List.map_append, List.map_cons] at hxs
  have h1 := congrArg (fun z => z[pre.length]?) hxs
  simp [visL] at h1
  rw [List.getElem?_append_right (by simp [hs])] at h1
  simpa [hs] using h1)
 clear hY hI hV0 hNt0 ht0 hxs
 gi_wp2
 gi_loopw [11] (fun i wr => ∃ (pre : List (Sp × Vi)) (k : Nat) (rest : List (Sp × Vi)), i = .int .i64 k ∧ k ≤ Nl ∧ pre.length = k ∧ xs = pre ++ rest ∧ (∀ y ∈ pre, good y = true) ∧ J pre wr ∧ B ≤ wr.heap.size)
  (fun i _ => Nl - (intOf i).toNat)
 case atStart => exact ⟨[], 0, xs, rfl, Nat.zero_le _, rfl, rfl, (fun y hy => by cases hy), h0, hWs⟩
 case round =>
  obtain ⟨pre, k, rest, rfl, hk, hpk, hx, hg, hj, hs⟩ := hrel
  clear h0
  have hpk' := Lib.hid hpk
  have hx' := Lib.hid hx
  have hg' := Lib.hid hg
  obtain ⟨y, rest, rfl⟩ : ∃ y r, rest = y :: r := by
   cases rest with
   | nil =>
    exfalso
    have h1 := hlen.out
    rw [hx] at h1
    simp at h1
    omega
   | cons y r => exact ⟨y, r, rfl⟩
  clear hpk hx hg
  by_cases hlt : k < Nl
  · obtain ⟨s, hsl⟩ : ∃ s, l[k]? = some s := ⟨l[k]'(by rw [hNl.out]; exact hlt), List.getElem?_eq_getElem _⟩
    have hVk := hI'.out _ _ (hJI _ _ hj)
    obtain ⟨g, o, rfl, hgB, c0, c1⟩ := Row.stop hVk.row hsl
    have hy2 : Hid (y.2 = visV t s) := Lib.hid (hgetS.out pre rest y s hx'.out (by rw [hpk'.out]; exact hsl))
    have hjV := hJ.new hj (.cells #[.int .i64 s.1, .int .i64 s.2] 61)
    have hVV := hI'.out _ _ (hJI _ _ hjV)
    have t0 := hVV.ht.cell 0
    have hbt := hVk.ht.inside
    simp at t0
    have hss : B ≤ (wr.alloc (.cells #[.int .i64 s.1, .int .i64 s.2] 61)).heap.size := by simp; omega
    have hvi := visitOf_any s.1 s.2 _ t _ (hVV.rqs.more (Nat.le_trans hB hss))
    have e1 : (s.1, s.2) = s := rfl
    rw [e1] at hvi
    clear hVk hVV hsl
    gi_wp2_with fail
    refine ⟨trivial, ?_⟩
    refine (callsIn_wide.2 hvi).mono ?_
    clear hvi
    rintro e w3 ⟨rfl, hb3⟩
    have hj3 := Old.below hJ hjV hb3
    have hs3 : B ≤ w3.heap.size := Nat.le_trans hss hb3.size
    have hj4 := hJ.new hj3 (.cells #[.int .i64 (visV t s).px, .int .i64 (visV t s).py, .int .i64 (visV t s).we, .int .i64 (visV t s).wl, .int .i64 (visV t s).sv] 122)
    obtain ⟨fn, tmps, assign, body, hyy, hR⟩ := hY'.out 1 pre y (w3.alloc (.cells #[.int .i64 (visV t s).px, .int .i64 (visV t s).py, .int .i64 (visV t s).we, .int .i64 (visV t s).wl, .int .i64 (visV t s).sv] 122)) ⟨rest, hx'.out⟩ hj4 hg'.out (by simp; omega)
    dsimp only [encV] at hyy
    rw [hy2.out] at hyy
    clear hb3 hj3 hjV hj hj4 c0 c1 t0 hss
    gi_wp2_with fail
    refine hR.mono ?_
    clear hR hyy
    rintro e w4 ⟨rfl, hj4, hk4⟩
    have hs4 : B ≤ w4.heap.size := Nat.le_trans (by simp; omega) hk4
    clear hk4
    cases hgood : good y
    · gi_wp2
      refine bodyPost_ret (results_none rfl _ _ _) rfl ?_
      refine ⟨⟨_, rfl⟩, ?_⟩
      rw [hx'.out, upTo_append hg'.out, upTo_bad hgood]
      exact hj4
    · have hgg := Lib.hid (good_snoc hg'.out hgood)
      clear hgood
      gi_wp2
      go_roundw
      case rel =>
       exact ⟨pre ++ [y], k + 1, rest, by go_num, hlt, by simp [hpk'.out], by rw [hx'.out]; simp, hgg.out, hj4, hs4⟩
      case measure => simp [intOf]; omega
  · obtain rfl : k = Nl := by omega
    have hVk := hI'.out _ _ (hJI _ _ hj)
    have hy2 : Hid (y.2 = homeV v) := Lib.hid (hgetH.out pre rest y hx'.out (by rw [hpk'.out, hNl.out]))
    have v0 := hVk.hv.cell 0
    have v1 := hVk.hv.cell 1
    have v3 := hVk.hv.cell 4
    have hbv := hVk.hv.inside
    simp at v0 v1 v3
    have hr0 : rest = [] := by
     have h1 := hlen.out
     rw [hx'.out] at h1
     simp at h1
     exact List.eq_nil_of_length_eq_zero (by have := hpk'.out; omega)
    subst hr0
    obtain ⟨fn, tmps, assign, body, hyy, hR⟩ := hY'.out 1 pre y wr ⟨[], hx'.out⟩ hj hg'.out hs
    dsimp only [encV] at hyy
    rw [hy2.out] at hyy
    dsimp only [homeV] at hyy
    clear hVk
    gi_wp2_with fail
    refine hR.mono ?_
    clear hR hyy
    rintro e w4 ⟨rfl, hj4, hk4⟩
    gi_wp2
    go_end0
    refine ⟨⟨_, rfl⟩, ?_⟩
    rw [hx'.out, upTo_append hg'.out]
    have e3 : upTo good [y] = [y] := by simp [upTo]
    rw [e3]
    exact hj4
end Go.Proofs.YteclpblfleakhaaDoor.When

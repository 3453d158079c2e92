import Derived.Test.YteefkijmodcijaaDoorPkFeasSomeLaw42

/-
  The contracts of package feas's Check and Right.
-/
namespace Go.Proofs.YteefkijmodcijaaDoor.Feas
open Go.RowKit Go.Sort Go.Proofs.YteefkijmodcijaaDoor.Mem Go.Proofs.YteefkijmodcijaaDoor.Route Go.Proofs.YteefkijmodcijaaDoor.When Go.Proofs.YteefkijmodcijaaDoor.Load Go.Proofs.YteefkijmodcijaaDoor.Float Go.Proofs.YteefkijmodcijaaDoor.Tail Go.Proofs.YteefkijmodcijaaDoor.Place
set_option linter.unusedVariables false

/-- An error that tells a fault; none where its code is 0. -/
def ErrAt (w : World) (u : Value) (f : Int × Int × Int) : Prop :=
  (f.1 = 0 ∧ u = .nilIface) ∨ (f.1 ≠ 0 ∧ ∃ q, u = .iface 92 (.pointer (some ⟨q, 0, none⟩)) ∧ At w q 55 #[.int .i64 f.1, .int .i64 f.2.1, .int .i64 f.2.2])
theorem ErrAt.on {w w' : World} {u : Value} {f : Int × Int × Int} (h : ErrAt w u f) (hb : Below w.heap.size w w') : ErrAt w' u f := by
  rcases h with h | ⟨h, q, e, hq⟩
  · exact .inl h
  · exact .inr ⟨h, q, e, hq.keep hb hq.inside⟩
theorem fault_code {v : Vh} {l : List (Int × Int)} {t : List Rq} (h : (faultV v l t).1 = 0) : faultV v l t = (0, 0, 0) := by
  unfold faultV at h ⊢
  split
  · rfl
  · rename_i h1; rw [if_neg h1] at h; exact absurd h h1

set_option maxRecDepth 100000 in
set_option maxHeartbeats 4000000 in
theorem Check_any (v : Vh) (vl vt : Value) (l : List (Int × Int)) (t : List Rq) (hl : l.length ≤ 1000000) (hnum : Nums l) (w : World) (hL : Row w.heap.size w vl l) (hT : Rqs w.heap.size w vt t) :
    Calls Tryd.prog 18 #[.agg #[.int .i64 v.hx, .int .i64 v.hy, .int .i64 v.cp, .int .i64 v.st, .int .i64 v.en], vl, vt] w fun e w' => (∃ u, e = .returned u ∧ ErrAt w' u (faultV v l t)) ∧ Below w.heap.size w w' := by
  obtain ⟨w0, hw0⟩ : ∃ w0, w.alloc (.cells #[.int .i64 v.hx, .int .i64 v.hy, .int .i64 v.cp, .int .i64 v.st, .int .i64 v.en] 34) = w0 := ⟨_, rfl⟩
  obtain ⟨q, hq⟩ : ∃ q, w.heap.size = q := ⟨_, rfl⟩
  have hV : At w0 q 34 #[.int .i64 v.hx, .int .i64 v.hy, .int .i64 v.cp, .int .i64 v.st, .int .i64 v.en] := by rw [← hw0]; exact At.new_ _ _ _ hq.symm
  have hb0 : Below w.heap.size w w0 := by rw [← hw0]; exact (Below.refl _ _).alloc (Nat.le_refl _) _
  have hlk := lookN v vl vt 38 earlyP pb_early l t hl hnum w0 (hL.on hb0) (hT.on hb0) (PassC.ofN (Window.enters Tryd.func38 (by kernel_rfl) rfl) (early_pace _ _ _))
  have hfv : Hid (faultV v l t = if (lookV v l t earlyP).1 = 0 then (0, 0, 0) else lookV v l t earlyP) := Lib.hid rfl
  generalize lookV v l t earlyP = F at *
  obtain ⟨C, p, i⟩ := F
  simp only at hlk
  have v0 := hV.cell 0
  have v1 := hV.cell 1
  have v2 := hV.cell 2
  have v3 := hV.cell 3
  have v4 := hV.cell 4
  simp at v0 v1 v2 v3 v4
  have hw0' := Lib.hid hw0
  have hq' := Lib.hid hq
  obtain ⟨xl, Nl, capl, rfl, -⟩ := hL.opened
  obtain ⟨xt, Nt, capt, rfl, -⟩ := hT.opened
  clear hl hnum hL hT hw0 hq hV
  go_enter Tryd.func18, Tryd.ntmps18
  go_upto_region 1 with fail
  simp only [hq'.out]
  rw [hw0'.out]
  go_wp2_with fail
  refine hlk.mono ?_
  clear hlk v0 v1 v2 v3 v4
  rintro e w1 ⟨rfl, hb1⟩
  have hB1 := hb0.trans (hb1.mono hb0.size)
  have hF := At.new w1 55 #[.int .i64 C, .int .i64 p, .int .i64 i]
  have hB2 := hB1.alloc hB1.size (.cells #[.int .i64 C, .int .i64 p, .int .i64 i] 55)
  clear hb0 hb1 hB1
  cases hc0 : (C == 0)
  · have hc1 : (C != 0) = true := by simpa using hc0
    have hw : Hid (faultV v l t = (C, p, i)) := Lib.hid (by rw [hfv.out, if_neg (by simpa using hc0)])
    have hne : Hid (C ≠ 0) := Lib.hid (by simpa using hc0)
    have hF' := Lib.hid hF
    clear hF
    go_wp2
    go_ret
    exact ⟨⟨_, rfl, .inr ⟨by rw [hw.out]; exact hne.out, _, rfl, by rw [hw.out]; exact hF'.out⟩⟩, hB2⟩
  · have hc1 : (C != 0) = false := by simpa using hc0
    have hw : Hid (faultV v l t = (0, 0, 0)) := Lib.hid (by rw [hfv.out, if_pos (by simpa using hc0)])
    clear hF
    go_wp2
    go_ret
    exact ⟨⟨_, rfl, .inl ⟨by rw [hw.out], rfl⟩⟩, hB2⟩

theorem keptFn_any (x : Option Addr) (n cap : Nat) (w : World) :
    Calls Tryd.prog 32 #[.slice x n cap] w fun e w' => e = .returned (.func (.func 58) #[] #[.pointer (some ⟨w.heap.size, 0, none⟩)]) ∧ w.alloc (.cells #[.slice x n cap] 30) = w' := by
  go_enter Tryd.func32, Tryd.ntmps32
  go_wp2
  go_ret
  exact ⟨rfl, rfl⟩

theorem kept_pace {ts : List Tm} {b : Nat} {vs : Value} {w : World} (hb : At w b 30 #[vs]) (hts : Tms w.heap.size w vs ts) : PaceC 58 #[.pointer (some ⟨b, 0, none⟩)] ts.length w w.heap.size (keptP ts) :=
  fun w' hw k x m hk hok hm1 hm2 => kept_any ts k x m b w.heap.size vs w' (hb.keep hw hb.inside) (hts.keep hw (Nat.le_refl _)) hw.size hk hok hm1

theorem right_len {v : Vh} {l : List (Int × Int)} {t : List Rq} {ts : List Tm} (h : ts.length ≠ l.length) : rightB v l t ts = false := by unfold rightB; simp [h]
theorem right_look {v : Vh} {l : List (Int × Int)} {t : List Rq} {ts : List Tm} (h : ts.length = l.length) : rightB v l t ts = ((lookV v l t (keptP ts)).1 == 0) := by unfold rightB; rw [Bool.eq_iff_iff]; simp [h]

set_option maxRecDepth 100000 in
set_option maxHeartbeats 4000000 in
theorem Right_any (v : Vh) (vl vt vs : Value) (l : List (Int × Int)) (t : List Rq) (ts : List Tm) (hl : l.length ≤ 1000000) (hnum : Nums l) (w : World) (hL : Row w.heap.size w vl l) (hT : Rqs w.heap.size w vt t) (hS : Tms w.heap.size w vs ts) :
    Calls Tryd.prog 14 #[.agg #[.int .i64 v.hx, .int .i64 v.hy, .int .i64 v.cp, .int .i64 v.st, .int .i64 v.en], vl, vt, vs] w fun e w' => e = .returned (.bool (rightB v l t ts)) ∧ Below w.heap.size w w' := by
  obtain ⟨w0, hw0⟩ : ∃ w0, w.alloc (.cells #[.int .i64 v.hx, .int .i64 v.hy, .int .i64 v.cp, .int .i64 v.st, .int .i64 v.en] 34) = w0 := ⟨_, rfl⟩
  obtain ⟨q, hq⟩ : ∃ q, w.heap.size = q := ⟨_, rfl⟩
  have hV : At w0 q 34 #[.int .i64 v.hx, .int .i64 v.hy, .int .i64 v.cp, .int .i64 v.st, .int .i64 v.en] := by rw [← hw0]; exact At.new_ _ _ _ hq.symm
  have hb0 : Below w.heap.size w w0 := by rw [← hw0]; exact (Below.refl _ _).alloc (Nat.le_refl _) _
  obtain ⟨xl, Nl, capl, rfl, hNl, -, -, hlc2⟩ := hL.opened
  obtain ⟨xt, Nt, capt, rfl, -, -, htc2, -⟩ := hT.opened
  obtain ⟨xs, Ns, caps, rfl, hNs, hsc1, hsc2, -⟩ := hS.opened
  unfold maxLen at hlc2 hsc2
  have hNl' : Hid (l.length = Nl) := hNl
  have hNs' : Hid (ts.length = Ns) := Lib.hid hNs
  have hw0' := Lib.hid hw0
  have hq' := Lib.hid hq
  cases e0 : ((Ns : Int) == (Nl : Int))
  · have e1 : ((Ns : Int) != (Nl : Int)) = true := by simpa using e0
    have hF := Lib.hid (right_len (v := v) (l := l) (t := t) (ts := ts) (by rw [hNl'.out, hNs'.out]; intro e; rw [e] at e0; simp at e0))
    clear hl hnum hL hT hw0 hq hV hS hNl hNs
    go_enter Tryd.func14, Tryd.ntmps14
    go_wp2
    go_ret
    exact ⟨Route.ret_bool hF.out.symm, by rw [hw0'.out]; exact hb0⟩
  · have e1 : ((Ns : Int) != (Nl : Int)) = false := by simpa using e0
    have hlen : ts.length = l.length := by rw [hNl'.out, hNs'.out]; have : (Ns : Int) = Nl := by simpa using e0
                                           omega
    have hF := Lib.hid (right_look (v := v) (t := t) hlen)
    have hlk := fun (W : World) (b : Nat) (hW : Below w.heap.size w W) (hb : At W b 30 #[.slice xs Ns caps]) => lookC v (.slice xl Nl capl) (.slice xt Nt capt) (.pointer (some ⟨b, 0, none⟩)) 58 (keptP ts) (pb_kept ts) l t hl hnum W (hL.on hW) (hT.on hW)
      (PassC.ofC (Window.enters Tryd.func58 (by kernel_rfl) rfl) (by rw [← hlen]; exact kept_pace hb (RowB.on hS hW)))
    generalize lookV v l t (keptP ts) = F at *
    obtain ⟨C, p, i⟩ := F
    simp only at hlk hF
    have hlk' := Lib.hid hlk
    have hV' := Lib.hid hV
    have hqi := hV.inside
    clear hl hnum hL hT hw0 hq hV hS hNl hNs hlk hlen
    go_enter Tryd.func14, Tryd.ntmps14
    go_upto_region 3 with fail
    simp only [hq'.out]
    rw [hw0'.out]
    have v0 := hV'.out.cell 0
    have v1 := hV'.out.cell 1
    have v2 := hV'.out.cell 2
    have v3 := hV'.out.cell 3
    have v4 := hV'.out.cell 4
    simp at v0 v1 v2 v3 v4
    have hb0' := Lib.hid hb0
    have hfl : ∀ W, (Instr.field 55 (.agg #[.int .i64 C, .int .i64 p, .int .i64 i]) 0).run Tryd.prog W = .ok (.int .i64 C) W := fun _ => by kernel_rfl
    clear e0 e1 hb0
    go_region_with (first
      | (go_at_call 32; refine (keptFn_any _ _ _ _).mono ?_; rintro e w5 ⟨rfl, rfl⟩)
      | (go_at_call 31; refine (hlk'.out _ w0.heap.size (hb0'.out.alloc hb0'.out.size _).drew (At.new _ _ _).drew).mono ?_; rintro e w6 ⟨rfl, hb6⟩))
    all_goals
      have hBA := (hb0'.out.alloc hb0'.out.size (.cells #[.slice xs Ns caps] 30)).drew
      have hB9 := hBA.trans (hb6.mono hBA.size)
      clear hBA hb6
      go_wp2
      go_ret
      exact ⟨Route.ret_bool hF.out.symm, hB9⟩

end Go.Proofs.YteefkijmodcijaaDoor.Feas
